/-
  spec.DiskOk: is a disk right? impl.NameOk: a name is 1 to 12 bytes, each from a to z or 0 to 9. impl.bytesIn: how many bytes all files have. The order of texts, byte by byte, as Lean's own order of lists. impl.DiskOk: is a disk right? What a row of files is made of. Rows that stand while others are written. Files put behind a row of the call's own. spec.l3Copy and spec.l3Begin, at a slice that may be nil. The five errors of the disk: where they lie; impl.diskCode and impl.ready. cmp.Compare at texts. Files in the order of their names; a right disk's are so; where a file of a name stands. Files of a disk in a map by their names: how a file in it reads, and what the map holds, as a list of files in no order. impl.byName: the files in a map of the call's own. impl.diskCode, impl.ready, impl.fileOf. The library's contracts of slices.SortFunc and slices.Clone at files of a disk, laid at this seat in plain words.
-/
import Derived.Test.YthhjomaccbpnbaaDoorMDiskOkGood
import Derived.Test.YthhjomaccbpnbaaDoorG00
import Derived.Laws.AppendOwnNone
import Derived.Lib.Strings
import Derived.WalkKit
import Derived.Maps.Ext
import Derived.Sort.KeysCollected
import Derived.StringKeys
import Derived.Maps.Range
import Derived.Maps.RangeWalk
import Derived.Shelf.SlSortCmp.NoneTotal
import Derived.Shelf.SlicesE.Clone
import Derived.Test.YthhjomaccbpnbaaDoorProg
namespace Go.Proofs.YthhjomaccbpnbaaDoor
open Go.RowKit
open Plain

set_option maxRecDepth 100000 in
set_option maxHeartbeats 4000000 in
theorem specOk_any (w : World) (a : Option Addr) (n cap : Nat) (fs : List FileV) (hr : FRow w 0 a n fs) (hn : n ≤ 1099511627776) (hz : szFs fs ≤ 1099511627776) (c u : Int) (d : Bool) :
    Calls Tryd.prog 13 #[.agg #[.slice a n cap, .int .i64 c, .int .i64 u, .bool d]] w fun e w' => e = .returned (.bool (diskOk fs c u)) ∧ Below w.heap.size w w' := by
  have hbx := box4 w (.slice a n cap) (.int .i64 c) (.int .i64 u) (.bool d) 26
  have HR := hide (hr.later hbx.1 (Nat.le_refl _))
  have HB := hide hbx.1
  have hlen := hr.len
  have hus := usedF_le_sz fs
  have hcell := cells4 hbx.2
  obtain ⟨W, hW⟩ : ∃ W, W = w.alloc (.cells #[.slice a n cap, .int .i64 c, .int .i64 u, .bool d] 26) := ⟨_, rfl⟩
  rw [← hW] at HR HB hcell
  have HWS : Hid (W.heap.size = w.heap.size + 1) := hide (by rw [hW]; simp)
  have hlater : ∀ w', Below W.heap.size W w' → w'.cell? ⟨w.heap.size, 0, none⟩ = some (.slice a n cap) ∧ w'.cell? ⟨w.heap.size, 1, none⟩ = some (.int .i64 c) ∧ w'.cell? ⟨w.heap.size, 2, none⟩ = some (.int .i64 u) ∧ w'.cell? ⟨w.heap.size, 3, none⟩ = some (.bool d) ∧ Hid (Below W.heap.size W w') := fun w' h =>
    ⟨by rw [h.cell (by have := HWS.out; show w.heap.size < _; omega)]; exact hcell.1, by rw [h.cell (by have := HWS.out; show w.heap.size < _; omega)]; exact hcell.2.1, by rw [h.cell (by have := HWS.out; show w.heap.size < _; omega)]; exact hcell.2.2.1, by rw [h.cell (by have := HWS.out; show w.heap.size < _; omega)]; exact hcell.2.2.2.1, hide h⟩
  have HL := hide hlater
  have HUS : Hid (∀ w', Hid (Below W.heap.size W w') → Calls Tryd.prog 32 #[.agg #[.slice a n cap, .int .i64 c, .int .i64 u, .bool d]] w' fun e w'' => e = .returned (.int .i64 (usedF fs)) ∧ Below W.heap.size W w'') := hide (fun w' h =>
    (specUsed_any w' a n cap fs (HR.out.later h.out (Nat.le_refl _)) hn (by omega) c u d).mono (fun e w'' ⟨h1, h2⟩ => ⟨h1, h.out.trans (h2.mono h.out.size)⟩))
  have S0 := hlater W.drew (Below.refl _ _).drew
  clear hbx hcell hlater
  by_cases q1 : n ≤ 130
  · have t1 : decide ((130 : Int) < (n : Int)) = false := by simp; omega
    by_cases q2 : inB 0 c 100000 = true
    · by_cases q3 : inB (-1) u 100000 = true
      · by_cases q4 : (usedF fs : Int) ≤ c
        · exact specOk_good w a n cap fs hr hn hz c u d q1 q2 q3 q4
        · have t4 : decide (c < (usedF fs : Int)) = true := by simp; omega
          have HV : Hid (diskOk fs c u = false) := hide (by simp [diskOk, headOk, q4])
          go_enter Tryd.func13, Tryd.ntmps13
          go_wp2_with fail
          rw [← hW]
          clear hW
          first
            | (go_region_held3 (fun w' => w'.cell? ⟨w.heap.size, 0, none⟩ = some (.slice a n cap) ∧ w'.cell? ⟨w.heap.size, 1, none⟩ = some (.int .i64 c) ∧ w'.cell? ⟨w.heap.size, 2, none⟩ = some (.int .i64 u) ∧ w'.cell? ⟨w.heap.size, 3, none⟩ = some (.bool d) ∧ Hid (Below W.heap.size W w')) (assumption) (first
              | (go_at_call 31; refine (in_anyB _ _ _ _).mono ?_; rintro e w4 ⟨rfl, rfl⟩)
              | (go_at_call 32; refine (HUS.out _ (by simp only [*])).mono ?_; rintro e w4 ⟨rfl, hb4⟩; have hS4 := HL.out w4 hb4)))
            | fail
          have HB4 := hide (HB.out.trans (hb4.mono HB.out.size))
          clear S0 HL HUS HR hb4 hS4
          go_wp2
          go_ret
          exact ⟨by rw [HV.out]; rfl, HB4.out⟩
      · have t3 : inB (-1) u 100000 = false := by simpa using q3
        have HV : Hid (diskOk fs c u = false) := hide (by simp [diskOk, headOk, t3])
        go_enter Tryd.func13, Tryd.ntmps13
        go_wp2_with fail
        rw [← hW]
        clear hW
        clear S0
        obtain ⟨z0, z1, z2, z3, -⟩ := HL.out W (Below.refl _ _)
        go_quiet ((go_at_call 31; exact Calls.quiet_of_same ((in_anyB _ _ _ _).mono (fun _ _ ⟨x, y⟩ => ⟨x, y.symm⟩))))
        clear HL HUS HR
        go_wp2
        go_ret
        exact ⟨by rw [HV.out]; rfl, ⟨HB.out.os, HB.out.tape, HB.out.output, HB.out.size, HB.out.block⟩⟩
    · have t2 : inB 0 c 100000 = false := by simpa using q2
      have HV : Hid (diskOk fs c u = false) := hide (by simp [diskOk, headOk, t2])
      go_enter Tryd.func13, Tryd.ntmps13
      go_wp2_with fail
      rw [← hW]
      clear hW
      clear S0
      obtain ⟨z0, z1, z2, z3, -⟩ := HL.out W (Below.refl _ _)
      go_quiet ((go_at_call 31; exact Calls.quiet_of_same ((in_anyB _ _ _ _).mono (fun _ _ ⟨x, y⟩ => ⟨x, y.symm⟩))))
      clear HL HUS HR
      go_wp2
      go_ret
      exact ⟨by rw [HV.out]; rfl, ⟨HB.out.os, HB.out.tape, HB.out.output, HB.out.size, HB.out.block⟩⟩
  · have t1 : decide ((130 : Int) < (n : Int)) = true := by simp; omega
    have HV : Hid (diskOk fs c u = false) := hide (by simp [diskOk, headOk, hlen, q1])
    go_enter Tryd.func13, Tryd.ntmps13
    go_wp2_with fail
    rw [← hW]
    clear hW
    clear S0
    obtain ⟨z0, z1, z2, z3, -⟩ := HL.out W (Below.refl _ _)
    go_quiet ((go_at_call 31; exact Calls.quiet_of_same ((in_anyB _ _ _ _).mono (fun _ _ ⟨x, y⟩ => ⟨x, y.symm⟩))))
    clear HL HUS HR
    go_wp2
    go_ret
    exact ⟨by rw [HV.out]; rfl, ⟨HB.out.os, HB.out.tape, HB.out.output, HB.out.size, HB.out.block⟩⟩

end Go.Proofs.YthhjomaccbpnbaaDoor
namespace Go.Proofs.YthhjomaccbpnbaaDoor
open Go.RowKit
open Plain

set_option maxRecDepth 100000 in
set_option maxHeartbeats 1000000 in
theorem implName_any (s : ByteArray) (w : World) (hs : s.size ≤ 1099511627776) :
    Calls Tryd.prog 26 #[.string s] w fun e w' => e = .returned (.bool (nameOk s)) ∧ w = w' := by
  by_cases q1 : s.size < 1
  · have t1 : decide ((s.size : Int) < 1) = true := by simp; omega
    have HV : Hid (nameOk s = false) := hide (by unfold nameOk; rw [decide_eq_false (p := 1 ≤ s.size ∧ s.size ≤ 12) (by omega), Bool.and_false])
    go_enter Tryd.func26, Tryd.ntmps26
    go_wp2
    go_ret
    exact ⟨by rw [HV.out]; rfl, rfl⟩
  · have t1 : decide ((s.size : Int) < 1) = false := by simp; omega
    by_cases q2 : 12 < s.size
    · have t2 : decide ((12 : Int) < (s.size : Int)) = true := by simp; omega
      have HV : Hid (nameOk s = false) := hide (by unfold nameOk; rw [decide_eq_false (p := 1 ≤ s.size ∧ s.size ≤ 12) (by omega), Bool.and_false])
      go_enter Tryd.func26, Tryd.ntmps26
      go_wp2
      go_ret
      exact ⟨by rw [HV.out]; rfl, rfl⟩
    · have t2 : decide ((12 : Int) < (s.size : Int)) = false := by simp; omega
      go_enter Tryd.func26, Tryd.ntmps26
      go_wp2
      go_loop [16] (fun i => ∃ k : Nat, k ≤ s.size ∧ i = .int .i64 k ∧ Hid (((bl s).take k).all nmB = true)) (fun i => s.size - (intOf i).toNat)
      case atStart => exact ⟨0, by omega, rfl, hide (by simp)⟩
      case round =>
        obtain ⟨k, hk, rfl, HA⟩ := hrel
        by_cases hlt : k < s.size
        · have hb := UInt8.toNat_lt s[k]
          have HS := hide (all_take_succ s k hlt)
          have HN : Hid (nmB s[k].toNat = true → ((bl s).take (k + 1)).all nmB = true) := hide (fun h => by rw [HS.out, HA.out, h]; rfl)
          have HF : Hid (nmB s[k].toNat = false → nameOk s = false) := hide (fun h => by
            unfold nameOk
            have h2 : (bl s).all nmB = false := by
              cases hall : (bl s).all nmB with
              | false => rfl
              | true =>
                have h3 := List.all_eq_true.1 hall (s[k].toNat) (by
                  have := bl_get s k hlt
                  exact List.mem_of_getElem? this)
                rw [h] at h3
                cases h3
            rw [h2]
            rfl)
          clear HS HA
          by_cases c1 : 97 ≤ s[k].toNat
          · by_cases c2 : s[k].toNat ≤ 122
            · have HN2 := hide (HN.out (by simp [nmB, c1, c2]))
              have d1 : decide ((97 : Int) ≤ (s[k].toNat : Int)) = true := by simp; omega
              have d2 : decide ((s[k].toNat : Int) ≤ 122) = true := by simp; omega
              have d3 : decide ((48 : Int) ≤ (s[k].toNat : Int)) = true := by simp; omega
              have d4 : decide ((s[k].toNat : Int) ≤ 57) = false := by simp; omega
              go_wp2
              go_round
              case rel => exact ⟨k + 1, by omega, by go_num, HN2⟩
              case measure => first | (simp [intOf]; done) | (simp [intOf]; omega)
            · have HF2 := hide (HF.out (by simp [nmB]; omega))
              have d1 : decide ((97 : Int) ≤ (s[k].toNat : Int)) = true := by simp; omega
              have d2 : decide ((s[k].toNat : Int) ≤ 122) = false := by simp; omega
              have d3 : decide ((48 : Int) ≤ (s[k].toNat : Int)) = true := by simp; omega
              have d4 : decide ((s[k].toNat : Int) ≤ 57) = false := by simp; omega
              go_wp2
              go_ret
              exact ⟨by rw [HF2.out]; rfl, rfl⟩
          · by_cases c3 : 48 ≤ s[k].toNat
            · by_cases c4 : s[k].toNat ≤ 57
              · have HN2 := hide (HN.out (by simp [nmB, c3, c4]))
                have d1 : decide ((97 : Int) ≤ (s[k].toNat : Int)) = false := by simp; omega
                have d3 : decide ((48 : Int) ≤ (s[k].toNat : Int)) = true := by simp; omega
                have d4 : decide ((s[k].toNat : Int) ≤ 57) = true := by simp; omega
                go_wp2
                go_round
                case rel => exact ⟨k + 1, by omega, by go_num, HN2⟩
                case measure => first | (simp [intOf]; done) | (simp [intOf]; omega)
              · have HF2 := hide (HF.out (by simp [nmB]; omega))
                have d1 : decide ((97 : Int) ≤ (s[k].toNat : Int)) = false := by simp; omega
                have d3 : decide ((48 : Int) ≤ (s[k].toNat : Int)) = true := by simp; omega
                have d4 : decide ((s[k].toNat : Int) ≤ 57) = false := by simp; omega
                go_wp2
                go_ret
                exact ⟨by rw [HF2.out]; rfl, rfl⟩
            · have HF2 := hide (HF.out (by simp [nmB]; omega))
              have d1 : decide ((97 : Int) ≤ (s[k].toNat : Int)) = false := by simp; omega
              have d3 : decide ((48 : Int) ≤ (s[k].toNat : Int)) = false := by simp; omega
              go_wp2
              go_ret
              exact ⟨by rw [HF2.out]; rfl, rfl⟩
        · obtain rfl : k = s.size := by omega
          have HL : Hid (nameOk s = true) := hide (by
            have h := HA.out
            rw [List.take_of_length_le (by rw [bl_length]; exact Nat.le_refl _)] at h
            unfold nameOk
            rw [h, Bool.true_and]
            exact decide_eq_true (by omega))
          go_wp2
          go_ret
          exact ⟨by rw [HL.out]; rfl, rfl⟩

end Go.Proofs.YthhjomaccbpnbaaDoor
namespace Go.Proofs.YthhjomaccbpnbaaDoor
open Go.RowKit
open Plain

set_option maxRecDepth 100000 in
set_option maxHeartbeats 1000000 in
theorem implBytes_any (w : World) (a : Option Addr) (n cap : Nat) (fs : List FileV) (hr : FRow w 0 a n fs) (hn : n ≤ 1099511627776) (hu : usedF fs ≤ 1099511627776) :
    Calls Tryd.prog 24 #[.slice a n cap] w fun e w' => e = .returned (.int .i64 (usedF fs)) ∧ Below w.heap.size w w' := by
  have HR := hide hr
  have hlen := hr.len
  clear hr
  go_enter Tryd.func24, Tryd.ntmps24
  go_wp2
  go_loopw [3, 8] (fun v i wr => ∃ k : Nat, k ≤ n ∧ i = .int .i64 k ∧ v = .int .i64 (usedF (fs.take k) : Nat) ∧ Hid (Below w.heap.size w wr)) (fun _ i _ => n - (intOf i).toNat)
  case atStart => exact ⟨0, by omega, rfl, by simp [usedF], hide (Below.refl _ _)⟩
  case round =>
    obtain ⟨k, hk, rfl, rfl, HB⟩ := hrel
    by_cases hlt : k < n
    · have hkf : k < fs.length := by omega
      obtain ⟨b, off, rfl, -, hbw, e1, e2, e3⟩ := (HR.out.later HB.out (Nat.le_refl _)).cells k hkf
      have hst := hide (usedF_take_succ fs k hkf)
      have hle := usedF_take_le fs (k + 1)
      have hst2 := hst.out
      have hS : usedF (fs.take k) + (fs[k]).text.size ≤ 1099511627776 := by omega
      clear hle hst2
      generalize usedF (fs.take k) = S at *
      go_wp2
      go_roundw
      case rel => exact ⟨k + 1, by omega, by go_num, by rw [hst.out]; go_num, hide (HB.out.alloc HB.out.size _)⟩
      case measure => first | (simp [intOf]; done) | (simp [intOf]; omega)
    · obtain rfl : k = n := by omega
      rw [List.take_of_length_le (by omega)]
      go_wp2
      go_ret
      exact ⟨rfl, HB.out⟩

end Go.Proofs.YthhjomaccbpnbaaDoor
namespace Go.Proofs.YthhjomaccbpnbaaDoor
open Go.RowKit
open Plain

theorem bytesLess_lt : ∀ (x y : List UInt8), Op.bytesLess x y = decide (x < y)
  | x, [] => by simp [Op.bytesLess]
  | [], b :: y => by simp [Op.bytesLess]
  | a :: x, b :: y => by
    rw [Op.bytesLess, bytesLess_lt x y]
    simp only [List.cons_lt_cons_iff]
    by_cases h1 : a < b <;> by_cases h2 : a = b <;> by_cases h3 : x < y <;> simp [h1, h2, h3]
theorem sle_less (a b : ByteArray) : sle a b = !(Op.bytesLess b.toList a.toList) := by
  unfold sle
  rw [bytesLess_lt, bytesLess_lt]
  by_cases h1 : a.toList < b.toList
  · have h2 : ¬ b.toList < a.toList := List.lt_asymm h1
    simp [h1, h2]
  · by_cases h3 : a.toList = b.toList
    · rw [h3]; simp [List.lt_irrefl]
    · have h2 : b.toList < a.toList := by
        rcases List.le_iff_lt_or_eq.1 (List.not_lt.1 h1) with h | h
        · exact h
        · exact absurd h.symm h3
      simp [h2, h3, List.lt_asymm h2]

end Go.Proofs.YthhjomaccbpnbaaDoor
namespace Go.Proofs.YthhjomaccbpnbaaDoor
open Go.RowKit
open Plain

/-- Three cells of a block. -/
theorem cells3 {w : World} {B : Nat} {x0 x1 x2 : Value} {ty : TypeId} (h : w.heap[B]? = some (.cells #[x0, x1, x2] ty (0, 0))) :
    w.cell? ⟨B, 0, none⟩ = some x0 ∧ w.cell? ⟨B, 1, none⟩ = some x1 ∧ w.cell? ⟨B, 2, none⟩ = some x2 := by
  refine ⟨?_, ?_, ?_⟩ <;> rw [cell_of_row w B _ _ _ _ h] <;> rfl

set_option maxRecDepth 100000 in
set_option maxHeartbeats 4000000 in
theorem implOk_good (w : World) (a : Option Addr) (n cap : Nat) (fs : List FileV) (hr : FRow w 0 a n fs) (hz : szFs fs ≤ 1099511627776) (c u : Int) (d : Bool) (q1 : n ≤ 130) (q2 : 0 ≤ c) (q3 : c ≤ 100000) (q4 : -1 ≤ u) (q5 : u ≤ 100000) :
    Calls Tryd.prog 35 #[.agg #[.slice a n cap, .int .i64 c, .int .i64 u, .bool d]] w fun e w' => e = .returned (.bool (diskOk fs c u)) ∧ Below w.heap.size w w' := by
  have hbx := box4 w (.slice a n cap) (.int .i64 c) (.int .i64 u) (.bool d) 26
  have HR := hide (hr.later hbx.1 (Nat.le_refl _))
  have HB := hide hbx.1
  have hlen := hr.len
  have hus := usedF_le_sz fs
  obtain ⟨W, hW⟩ : ∃ W, W = w.alloc (.cells #[.slice a n cap, .int .i64 c, .int .i64 u, .bool d] 26) := ⟨_, rfl⟩
  rw [← hW] at HR HB hbx
  have HX := hide hbx.2
  have HWS : Hid (W.heap.size = w.heap.size + 1) := hide (by rw [hW]; simp)
  clear hbx hr
  have t1 : decide ((130 : Int) < (n : Int)) = false := by simp; omega
  have t2 : decide (c < 0) = false := by simp; omega
  have t3 : decide (100000 < c) = false := by simp; omega
  have t4 : decide (u < -1) = false := by simp; omega
  have t5 : decide (100000 < u) = false := by simp; omega
  have y := cells4 HX.out
  rw [hW] at y
  obtain ⟨y0, y1, y2, y3, -⟩ := y
  go_enter Tryd.func35, Tryd.ntmps35
  go_wp2_with fail
  rw [← hW]
  clear hW y0 y1 y2 y3
  go_loopw [32] (fun i wr => ∃ k : Nat, k ≤ n ∧ i = .int .i64 k ∧ Hid (∀ j, j < k → okAt fs j = true) ∧ Hid (Below W.heap.size W wr)) (fun i _ => n - (intOf i).toNat)
  case atStart => exact ⟨0, by omega, rfl, hide (fun j hj => absurd hj (by omega)), hide (Below.refl _ _)⟩
  case round =>
    obtain ⟨k, hk, rfl, HA, HBr⟩ := hrel
    have HXr := hide ((HBr.out.block _ (by have := HWS.out; omega)).trans HX.out)
    have hsr : w.heap.size < wr.heap.size := by have := HBr.out.size; have := HWS.out; omega
    by_cases hlt : k < n
    · have hkf : k < fs.length := by omega
      obtain ⟨b, off, rfl, -, hbw, e1, e2, e3⟩ := (HR.out.later HBr.out (Nat.le_refl _)).cells k hkf
      have hgd : fs.getD k zeroF = fs[k] := by simp [List.getD, hkf]
      have hnsz : (fs[k]).name.size ≤ 1099511627776 := Nat.le_trans (name_le fs k hkf) hz
      have htsz : (fs[k]).text.size ≤ 1099511627776 := Nat.le_trans (text_le fs k hkf) hz
      have HBAD : Hid (okAt fs k = false → diskOk fs c u = false) := hide (fun h => by unfold diskOk; rw [okAll_bad fs k hkf h]; simp)
      have HGOOD : Hid (okAt fs k = true → ∀ j, j < k + 1 → okAt fs j = true) := hide (fun h j hj => by
        by_cases e : j = k
        · subst e; exact h
        · exact HA.out j (by omega))
      clear HA
      obtain ⟨Y, hY⟩ : ∃ Y, Y = wr.alloc (.cells #[.string (fs[k]).name, .string (fs[k]).text, .int .i64 (fs[k]).safe] 51) := ⟨_, rfl⟩
      have HBY : Hid (Below W.heap.size W Y) := hide (by rw [hY]; exact HBr.out.alloc HBr.out.size _)
      have HXY : Hid (Y.heap[w.heap.size]? = some (.cells #[.slice (some ⟨b, off, none⟩) n cap, .int .i64 c, .int .i64 u, .bool d] 26 (0, 0))) := hide (by rw [hY, Below.heap_alloc _ _ _ hsr]; exact HXr.out)
      have HYN : Hid (Y.heap[wr.heap.size]? = some (.cells #[.string (fs[k]).name, .string (fs[k]).text, .int .i64 (fs[k]).safe] 51 (0, 0))) := hide (by rw [hY]; exact heap_alloc_new wr _)
      have HBq : Hid (∀ m, Below W.heap.size W (Y.drewN m)) := hide (fun m => ⟨HBY.out.os, HBY.out.tape, HBY.out.output, HBY.out.size, HBY.out.block⟩)
      have HNM := hide (implName_any (fs[k]).name Y hnsz)
      go_wp2_with fail
      rw [← hY]
      clear hY e1 e2 e3
      refine HNM.out.mono ?_
      rintro e w2 ⟨rfl, rfl⟩
      clear HNM
      obtain ⟨z0, z1, z2⟩ := cells3 HYN.out
      obtain ⟨y0, y1, y2, y3, -⟩ := cells4 HXY.out
      by_cases n1 : nameOk (fs[k]).name = true
      · by_cases n2 : 0 ≤ (fs[k]).safe
        · have s2 : decide ((fs[k]).safe < 0) = false := by simp; omega
          by_cases n3 : (fs[k]).safe ≤ ((fs[k]).text.size : Int)
          · have s3 : decide (((fs[k]).text.size : Int) < (fs[k]).safe) = false := by simp; omega
            have HF : Hid (okF (fs[k]) = true) := hide (by unfold okF; rw [n1, inB_yes ⟨n2, n3⟩]; rfl)
            rw [n1]
            by_cases k0 : k = 0
            · have HA2 := hide (HGOOD.out (by unfold okAt; rw [hgd, HF.out]; simp [k0]))
              have kz : decide ((0 : Int) < (k : Int)) = false := by simp; omega
              have kzN : decide (0 < k) = false := by simp; omega
              clear HBAD HGOOD hgd k0 HF
              go_wp2
              go_quiet (fail)
              go_wp2
              go_roundw
              case rel => exact ⟨k + 1, by omega, by go_num, HA2, hide (HBq.out _)⟩
              case measure => first | (simp [intOf]; done) | (simp [intOf]; omega)
            · obtain ⟨j, rfl⟩ : ∃ j, k = j + 1 := ⟨k - 1, by omega⟩
              have hjf : j < fs.length := by omega
              obtain ⟨b', o', q0, -, -, p1, -, -⟩ := (HR.out.later HBY.out (Nat.le_refl _)).cells j hjf
              simp only [Option.some.injEq, Addr.mk.injEq] at q0
              obtain ⟨rfl, rfl, -⟩ := q0
              have hgp : fs.getD (j + 1 - 1) zeroF = fs[j] := by simp [List.getD, hjf]
              have HOK : Hid (okAt fs (j + 1) = !(sle (fs[j + 1]).name (fs[j]).name)) := hide (by unfold okAt; rw [hgd, hgp, HF.out]; simp)
              have x1 : (0 : Int) ≤ (j : Int) + 1 := by omega
              have x2 : (j : Int) + 1 < (n : Int) := by omega
              have x3 : ((j : Int) + 1).toNat = j + 1 := by omega
              have x4 : (0 : Int) < (j : Int) + 1 := by omega
              have x5 : (j : Int) < (n : Int) := by omega
              have x6 : IntKind.i64.wrap (j : Int) = (j : Int) := by rw [IntKind.wrap_i64]; omega
              have x8 : IntKind.i64.wrap ((j : Int) + 1 - 1) = (j : Int) := by rw [IntKind.wrap_i64]; omega
              clear hgp hgd k0 HF
              by_cases n4 : sle (fs[j + 1]).name (fs[j]).name = true
              · have HV := hide (HBAD.out (by rw [HOK.out, n4]; rfl))
                have n4' : Op.bytesLess (fs[j]).name.toList (fs[j + 1]).name.toList = false := by rw [sle_less] at n4; simpa using n4
                clear n4 HBAD HGOOD HOK
                go_wp2
                go_quiet (fail)
                go_wp2
                go_ret
                exact ⟨by rw [HV.out]; rfl, HB.out.trans ((HBq.out _).mono HB.out.size)⟩
              · have n4f : sle (fs[j + 1]).name (fs[j]).name = false := by simpa using n4
                have n4' : Op.bytesLess (fs[j]).name.toList (fs[j + 1]).name.toList = true := by rw [sle_less] at n4f; simpa using n4f
                have HA2 := hide (HGOOD.out (by rw [HOK.out, n4f]; rfl))
                clear n4 n4f HBAD HGOOD HOK
                go_wp2
                go_quiet (fail)
                go_wp2
                go_roundw
                case rel => exact ⟨j + 1 + 1, by omega, by go_num, HA2, hide (HBq.out _)⟩
                case measure => first | (simp [intOf]; done) | (simp [intOf]; omega)
          · have s3 : decide (((fs[k]).text.size : Int) < (fs[k]).safe) = true := by simp; omega
            have HV := hide (HBAD.out (by unfold okAt okF; rw [hgd, inB_no (by omega)]; simp))
            rw [n1]
            clear HBAD HGOOD hgd
            go_wp2
            go_ret
            exact ⟨by rw [HV.out]; rfl, HB.out.trans (HBY.out.mono HB.out.size)⟩
        · have s2 : decide ((fs[k]).safe < 0) = true := by simp; omega
          have HV := hide (HBAD.out (by unfold okAt okF; rw [hgd, inB_no (by omega)]; simp))
          rw [n1]
          clear HBAD HGOOD hgd
          go_wp2
          go_ret
          exact ⟨by rw [HV.out]; rfl, HB.out.trans (HBY.out.mono HB.out.size)⟩
      · have n1' : nameOk (fs[k]).name = false := by simpa using n1
        have HV := hide (HBAD.out (by unfold okAt okF; rw [hgd, n1']; simp))
        rw [n1']
        clear HBAD HGOOD hgd n1 n1'
        go_wp2
        go_ret
        exact ⟨by rw [HV.out]; rfl, HB.out.trans (HBY.out.mono HB.out.size)⟩
    · obtain rfl : k = n := by omega
      have HOA := hide (okAll_good fs (fun i hi => HA.out i (by omega)))
      have HV : Hid (diskOk fs c u = decide ((usedF fs : Int) ≤ c)) := hide (by unfold diskOk headOk; rw [HOA.out, inB_yes ⟨q2, q3⟩, inB_yes ⟨q4, q5⟩]; simp [hlen, q1])
      clear HA HOA
      have HBI := hide (implBytes_any wr a k cap fs (HR.out.later HBr.out (Nat.le_refl _)) (by omega) (by omega))
      obtain ⟨y0, y1, y2, y3, -⟩ := cells4 HXr.out
      have HK : Hid (∀ w', Below wr.heap.size wr w' → w'.cell? ⟨w.heap.size, 0, none⟩ = some (.slice a k cap) ∧ w'.cell? ⟨w.heap.size, 1, none⟩ = some (.int .i64 c) ∧ Hid (Below W.heap.size W w')) := hide (fun w' h => by
        obtain ⟨v0, v1, -⟩ := cells4 ((h.block _ hsr).trans HXr.out)
        exact ⟨v0, v1, hide (HBr.out.trans (h.mono HBr.out.size))⟩)
      have S0 := HK.out wr.drew (Below.refl _ _).drew
      have HBI2 : Hid (∀ w', Below wr.heap.size wr w' → Calls Tryd.prog 24 #[.slice a k cap] w' fun e w'' => e = .returned (.int .i64 (usedF fs)) ∧ Below wr.heap.size wr w'') := hide (fun w' h => (implBytes_any w' a k cap fs (HR.out.later (HBr.out.trans (h.mono HBr.out.size)) (Nat.le_refl _)) (by omega) (by omega)).mono (fun e w'' ⟨h1, h2⟩ => ⟨h1, h.trans (h2.mono h.size)⟩))
      clear y0 y1 y2 y3 HBI
      go_wp2_with fail
      first
        | (go_region_held3 (fun w' => w'.cell? ⟨w.heap.size, 0, none⟩ = some (.slice a k cap) ∧ w'.cell? ⟨w.heap.size, 1, none⟩ = some (.int .i64 c) ∧ Hid (Below W.heap.size W w')) (assumption) (
            (go_at_call 24; refine (HBI2.out _ (Below.refl _ _).drew).mono ?_; rintro e w4 ⟨rfl, hb4⟩; have hS4 := HK.out w4 hb4)))
        | fail
      have HB4 := hide hS4.2.2.out
      clear S0 hb4 hS4 HK HBI2
      go_wp2
      go_ret
      exact ⟨by rw [HV.out]; rfl, HB.out.trans (HB4.out.mono HB.out.size)⟩

set_option maxRecDepth 100000 in
set_option maxHeartbeats 4000000 in
theorem implOk_any (w : World) (a : Option Addr) (n cap : Nat) (fs : List FileV) (hr : FRow w 0 a n fs) (hn : n ≤ 1099511627776) (hz : szFs fs ≤ 1099511627776) (c u : Int) (d : Bool) :
    Calls Tryd.prog 35 #[.agg #[.slice a n cap, .int .i64 c, .int .i64 u, .bool d]] w fun e w' => e = .returned (.bool (diskOk fs c u)) ∧ Below w.heap.size w w' := by
  by_cases hh : n ≤ 130 ∧ (0 ≤ c ∧ c ≤ 100000) ∧ (-1 ≤ u ∧ u ≤ 100000)
  · exact implOk_good w a n cap fs hr hz c u d hh.1 hh.2.1.1 hh.2.1.2 hh.2.2.1 hh.2.2.2
  · have hlen := hr.len
    have HV : Hid (diskOk fs c u = false) := hide (by
      unfold diskOk headOk
      rw [hlen]
      by_cases h1 : n ≤ 130
      · by_cases h2 : 0 ≤ c ∧ c ≤ 100000
        · rw [inB_no (lo := -1) (x := u) (hi := 100000) (fun h => hh ⟨h1, h2, h⟩)]; simp
        · rw [inB_no h2]; simp
      · simp [h1])
    have hbx := box4 w (.slice a n cap) (.int .i64 c) (.int .i64 u) (.bool d) 26
    have HB := hide hbx.1
    obtain ⟨y0, y1, y2, y3, -⟩ := cells4 hbx.2
    clear hbx hr
    by_cases h1 : n ≤ 130
    · have t1 : decide ((130 : Int) < (n : Int)) = false := by simp; omega
      by_cases h2 : 0 ≤ c
      · have t2 : decide (c < 0) = false := by simp; omega
        by_cases h3 : c ≤ 100000
        · have t3 : decide (100000 < c) = false := by simp; omega
          by_cases h4 : -1 ≤ u
          · have t4 : decide (u < -1) = false := by simp; omega
            have t5 : decide (100000 < u) = true := by simp; omega
            go_enter Tryd.func35, Tryd.ntmps35
            go_wp2
            go_ret
            exact ⟨by rw [HV.out]; rfl, HB.out⟩
          · have t4 : decide (u < -1) = true := by simp; omega
            go_enter Tryd.func35, Tryd.ntmps35
            go_wp2
            go_ret
            exact ⟨by rw [HV.out]; rfl, HB.out⟩
        · have t3 : decide (100000 < c) = true := by simp; omega
          go_enter Tryd.func35, Tryd.ntmps35
          go_wp2
          go_ret
          exact ⟨by rw [HV.out]; rfl, HB.out⟩
      · have t2 : decide (c < 0) = true := by simp; omega
        go_enter Tryd.func35, Tryd.ntmps35
        go_wp2
        go_ret
        exact ⟨by rw [HV.out]; rfl, HB.out⟩
    · have t1 : decide ((130 : Int) < (n : Int)) = true := by simp; omega
      go_enter Tryd.func35, Tryd.ntmps35
      go_wp2
      go_ret
      exact ⟨by rw [HV.out]; rfl, HB.out⟩

end Go.Proofs.YthhjomaccbpnbaaDoor
namespace Go.Proofs.YthhjomaccbpnbaaDoor
open Go.RowKit
open Plain

theorem Tryd.infoF : (Tryd.prog.info? 51).map (fun i => (i.zero, i.size, i.bytes)) = some (some (.agg #[.string ⟨#[]⟩, .string ⟨#[]⟩, .int .i64 0]), 3, 40) := by kernel_rfl
theorem take_set_succ (gs fs : List FileV) (k : Nat) (hk : k < fs.length) (hg : k < gs.length) (h : gs.take k = fs.take k) : (gs.set k (fs[k])).take (k + 1) = fs.take (k + 1) := by
  rw [List.take_succ_eq_append_getElem (by rw [List.length_set]; exact hg), List.take_succ_eq_append_getElem hk, List.take_set_of_le (Nat.le_refl _), h]
  simp

end Go.Proofs.YthhjomaccbpnbaaDoor
namespace Go.Proofs.YthhjomaccbpnbaaDoor
open Go.RowKit
open Plain

theorem own_later {w w' : World} {base e sz n K : Nat} {v : Value} {xs : List Value} (h : w.ownsRow base e sz v n xs) (hb : Below K w w') (hK : w.heap.size ≤ K) : w'.ownsRow base e sz v n xs := by
  refine ⟨h.1, ?_⟩
  rcases h.2 with h | ⟨g, c, cur, e, hbg, hg, h1⟩
  · exact .inl h
  · have hgl : g < w.heap.size := by
      rcases Nat.lt_or_ge g w.heap.size with h' | h'
      · exact h'
      · rw [Array.getElem?_eq_none h'] at hg; cases hg
    exact .inr ⟨g, c, cur, e, hbg, by rw [hb.block g (by omega)]; exact hg, h1⟩
theorem below_grown {w w' : World} (r : Option Nat) (h : Below w.heap.size w w') : w.grownBy w' r := ⟨h.os, h.tape, h.output, h.size, fun k hk _ => h.block k hk⟩
theorem grown_chain {a b c : World} {r : Option Nat} (h : a.grownBy b r) (k : b.grownBy c r) : a.grownBy c r :=
  ⟨k.os.trans h.os, k.tape.trans h.tape, k.output.trans h.output, Nat.le_trans h.size k.size, fun i hi hr => (k.block i (Nat.lt_of_lt_of_le hi h.size) hr).trans (h.block i hi hr)⟩
theorem grown_refl (w : World) (r : Option Nat) : w.grownBy w r := ⟨rfl, rfl, rfl, Nat.le_refl _, fun _ _ _ => rfl⟩
/-- A cell of a row of the call's own: it is there, and can be written. -/
theorem own_cell {w : World} {base e g n cap : Nat} {xs : List Value} (h : w.ownsRow base e 3 (.slice (some ⟨g, 0, none⟩) n cap) n xs) (j : Nat) (hj : j < n * 3) : (∃ u, w.cell? ⟨g, j, none⟩ = some u) ∧ w.frozen? ⟨g, j, none⟩ = false := by
  refine ⟨?_, h.frozenAt j⟩
  rw [h.cellAt j hj]
  have : j < xs.length := by rw [h.1]; exact hj
  exact ⟨_, List.getElem?_eq_getElem this⟩

end Go.Proofs.YthhjomaccbpnbaaDoor
namespace Go.Proofs.YthhjomaccbpnbaaDoor
open Go.RowKit
open Plain

theorem FOwn.setNe {w : World} {base : Nat} {v : Value} {fs : List FileV} (h : FOwn w base v fs) (p : Addr) (u : Value) (hp : v.ownBlock ≠ some p.block) : FOwn (w.setCell p u) base v fs := by
  refine ⟨h.1, ?_⟩
  rcases h.2 with h | ⟨g, c, cur, e, hbg, hg, h1⟩
  · exact .inl h
  · refine .inr ⟨g, c, cur, e, hbg, ?_, h1⟩
    rw [Below.heap_setCell w p u g (by intro q; apply hp; rw [e, ← q]; rfl)]
    exact hg
theorem FOwn.blk {w : World} {base : Nat} {v : Value} {fs : List FileV} (h : FOwn w base v fs) : ∀ g, v.ownBlock = some g → base ≤ g ∧ g < w.heap.size := World.ownsRow.lt h
theorem set_get_self {α : Type} (xs : List α) (j : Nat) (x : α) (h : xs[j]? = some x) : xs.set j x = xs := by
  apply List.ext_getElem?
  intro i
  by_cases e : j = i
  · subst e
    rw [List.getElem?_set_self (List.getElem?_eq_some_iff.1 h).1, h]
  · rw [List.getElem?_set_ne e]
theorem FOwn.putSafe {w : World} {base g n cap : Nat} {fs : List FileV} (h : FOwn w base (.slice (some ⟨g, 0, none⟩) n cap) fs) (i : Nat) (hi : i < fs.length) (z : Int) :
    FOwn (w.setCell ⟨g, i * 3 + 2, none⟩ (.int .i64 z)) base (.slice (some ⟨g, 0, none⟩) n cap) (fs.set i ⟨(fs[i]).name, (fs[i]).text, z⟩) := by
  have hn := h.len
  have hg := fcells_get fs i hi
  unfold FOwn at h ⊢
  rw [hn] at h
  rw [List.length_set, hn, ← fcells_set fs i _ hi, set_get_self _ _ _ hg.1, set_get_self _ _ _ hg.2.1]
  exact (h.stored (i * 3 + 2) _).1
theorem FOwn.putText {w : World} {base g n cap : Nat} {fs : List FileV} (h : FOwn w base (.slice (some ⟨g, 0, none⟩) n cap) fs) (i : Nat) (hi : i < fs.length) (t : ByteArray) :
    FOwn (w.setCell ⟨g, i * 3 + 1, none⟩ (.string t)) base (.slice (some ⟨g, 0, none⟩) n cap) (fs.set i ⟨(fs[i]).name, t, (fs[i]).safe⟩) := by
  have hn := h.len
  have hg := fcells_get fs i hi
  unfold FOwn at h ⊢
  rw [hn] at h
  have e2 : ((fcells fs).set (i * 3 + 1) (.string t))[i * 3 + 2]? = some (.int .i64 (fs[i]).safe) := by rw [List.getElem?_set_ne (by omega)]; exact hg.2.2
  rw [List.length_set, hn, ← fcells_set fs i _ hi, set_get_self _ _ _ hg.1, set_get_self _ _ _ e2]
  exact (h.stored (i * 3 + 1) _).1
theorem addr_add (b off j : Nat) : (⟨b, off, none⟩ : Addr).add j = ⟨b, off + j, none⟩ := by unfold Addr.add; split <;> simp_all
theorem fcells_one (fs : List FileV) : ∀ u ∈ fcells fs, u.oneCell' = true := by
  induction fs with
  | nil => intro u h; simp [fcells] at h
  | cons f r ih =>
    intro u h
    simp only [fcells, List.mem_cons] at h
    rcases h with rfl | rfl | rfl | h
    · rfl
    · rfl
    · rfl
    · exact ih u h
/-- What a slice of files shows, cell by cell. -/
theorem FRow.src {w : World} {base : Nat} {ad : Addr} {n : Nat} {fs : List FileV} (h : FRow w base (some ad) n fs) : ∀ j u, (fcells fs)[j]? = some u → w.cell? (ad.add j) = some u := by
  intro j u hj
  have hjl : j < fs.length * 3 := by
    have := (List.getElem?_eq_some_iff.1 hj).1
    rw [fcells_length] at this
    exact this
  have hi : j / 3 < fs.length := by omega
  obtain ⟨b, off, e, _, _, c0, c1, c2⟩ := h.cells (j / 3) hi
  obtain ⟨g0, g1, g2⟩ := fcells_get fs (j / 3) hi
  injection e with e
  subst e
  rw [addr_add]
  rcases (by omega : j % 3 = 0 ∨ j % 3 = 1 ∨ j % 3 = 2) with q | q | q
  · have h2 : (fcells fs)[j]? = some (.string (fs[j / 3]).name) := by rw [← g0]; congr 1; omega
    rw [h2] at hj
    injection hj with hj
    rw [← hj, show off + j = off + j / 3 * 3 by omega]
    exact c0
  · have h2 : (fcells fs)[j]? = some (.string (fs[j / 3]).text) := by rw [← g1]; congr 1; omega
    rw [h2] at hj
    injection hj with hj
    rw [← hj, show off + j = off + j / 3 * 3 + 1 by omega]
    exact c1
  · have h2 : (fcells fs)[j]? = some (.int .i64 (fs[j / 3]).safe) := by rw [← g2]; congr 1; omega
    rw [h2] at hj
    injection hj with hj
    rw [← hj, show off + j = off + j / 3 * 3 + 2 by omega]
    exact c2

/-- 'out = append(out, fs...)', out a row of the call's own: a law for the walk. -/
theorem wpList_app_files {ops : Array Oper} {rest : List Oper} {o : Oper} {act : Act} {Q : Exit → Act → World → Prop} (hgd : o.guard = none) (s x : Operand)
    (ho : o.op = .call { callee := .builtin .append, args := #[s, x], argTypes := #[24, 24] }) {w : World} {base : Nat} {v : Value} {fs gs : List FileV} (hown : FOwn w base v fs) (hb : base ≤ w.heap.size)
    {ad : Addr} {m c : Nat} (hr : FRow w 0 (some ad) m gs) (hn : fs.length + m ≤ 1099511627776)
    (hs : act.eval s = v) (hx : act.eval x = .slice (some ad) m c)
    (h : ∀ a' n' cap' w', n' = fs.length + m → FOwn w' base (.slice a' n' cap') (fs ++ gs) → w.grownBy w' v.ownBlock → wpList Tryd.prog ops Q rest (act.put o.dst (.slice a' n' cap')) w') : wpList Tryd.prog ops Q (o :: rest) act w := by
  obtain ⟨i0, hi, hz0, hz1, hz2⟩ := info_parts Tryd.infoF
  have hm := hr.len
  refine wpList_append_own (P := Tryd.prog) w hgd s x 24 ho base 51 i0 _ 3 40 Tryd.underlying24 hi hz0 hz1 hz2 rfl (by decide) v fs.length (fcells fs) hs hown
    ad m c (fcells gs) hx (by rw [fcells_length, hm]) hr.src (fcells_one gs) (by unfold maxLen; omega) (by omega) hb ?_
  intro v' w' ho' hg _
  have hval : ∃ a' cap', v' = .slice a' (fs.length + m) cap' := by
    rcases ho'.2 with ⟨e, h0⟩ | ⟨g, cap, cur, e, _⟩
    · exact ⟨none, 0, by rw [e, h0]⟩
    · exact ⟨_, _, e⟩
  obtain ⟨a', cap', rfl⟩ := hval
  refine h a' _ cap' w' rfl ?_ hg
  unfold FOwn
  rw [List.length_append, hm, fcells_append]
  exact ho'

end Go.Proofs.YthhjomaccbpnbaaDoor
namespace Go.Proofs.YthhjomaccbpnbaaDoor
open Go.RowKit
open Plain

set_option maxRecDepth 100000 in
set_option maxHeartbeats 1000000 in
theorem specCopy_some (w : World) (ad : Addr) (n cap : Nat) (fs : List FileV) (hr : FRow w 0 (some ad) n fs) (hn : n ≤ 1048576) (c u : Int) (d : Bool) :
    Calls Tryd.prog 67 #[.agg #[.slice (some ad) n cap, .int .i64 c, .int .i64 u, .bool d]] w fun e w' => (∃ a' cap', e = .returned (.agg #[.slice a' n cap', .int .i64 c, .int .i64 u, .bool d]) ∧ FOwn w' w.heap.size (.slice a' n cap') fs) ∧ Below w.heap.size w w' := by
  have hfn := hr.len
  obtain ⟨W, hW⟩ : ∃ W, W = ((w.alloc (.cells #[.slice (some ad) n cap, .int .i64 c, .int .i64 u, .bool d] 26)).alloc (.cells #[.slice none 0 0, .int .i64 0, .int .i64 0, .bool false] 26)).alloc (.cells #[] 51) := ⟨_, rfl⟩
  have hA := alloc3 w (.cells #[.slice (some ad) n cap, .int .i64 c, .int .i64 u, .bool d] 26) (.cells #[.slice none 0 0, .int .i64 0, .int .i64 0, .bool false] 26) (.cells #[] 51)
  rw [← hW] at hA
  have HO : Hid (FOwn W (w.heap.size + 2) (.slice (some ⟨w.heap.size + 1 + 1, 0, none⟩) 0 0) []) := hide (by
    refine ⟨rfl, .inr ⟨w.heap.size + 1 + 1, 0, #[], rfl, Nat.le_refl _, hA.2.2.2.2, Nat.le_refl _, by unfold maxLen; omega, rfl, rfl⟩⟩)
  have HS := hide hA.1
  have HB0 := hide hA.2.1
  have HC0 := hide hA.2.2.1
  have HC1 := hide hA.2.2.2.1
  clear hA
  have HR := hide (hr.later HB0.out (Nat.le_refl _))
  clear hr
  go_enter Tryd.func67, Tryd.ntmps67
  go_wp2_with (at_builtin; (try rw [← hW]); clear hW; refine wpList_app_files rfl (.tmp 3) (.tmp 5) rfl HO.out (by have := HS.out; omega) HR.out (by simp; omega) rfl rfl ?_; intro a' n' cap' w2 hn' hown2 hg2; rw [List.length_nil, Nat.zero_add] at hn'; subst hn'; obtain ⟨a0, a1, a2, a3, f0, -, -, -⟩ := cells4 ((hg2.block _ (by have := HS.out; omega) (by simp [Value.ownBlock]; omega)).trans HC0.out); obtain ⟨b0, b1, b2, b3, k0, k1, k2, k3⟩ := cells4 ((hg2.block _ (by have := HS.out; omega) (by simp [Value.ownBlock]; try omega)).trans HC1.out); have HO2 := hide hown2; have HG2 := hide hg2; clear hown2 hg2)
  have HB2 := hide (HB0.out.grown HG2.out HB0.out.size (by intro j h; simp [Value.ownBlock] at h; omega))
  refine bodyPost_ret (v := .agg #[.slice a' n' cap', .int .i64 c, .int .i64 u, .bool d]) (by simp [results, Tryd.results67, go_sem, *]) rfl ⟨⟨a', cap', rfl, ?_⟩, ?_⟩
  · refine FOwn.mono ?_ (Nat.le_add_right _ 2)
    iterate 5 (refine FOwn.setCell ?_ _ _ (by dsimp only; omega))
    exact HO2.out
  · iterate 5 (refine Below.setCell ?_ (by dsimp only; omega) _)
    exact HB2.out

set_option maxRecDepth 100000 in
set_option maxHeartbeats 1000000 in
theorem specCopy_nil (w : World) (c u : Int) (d : Bool) :
    Calls Tryd.prog 67 #[.agg #[.slice none 0 0, .int .i64 c, .int .i64 u, .bool d]] w fun e w' => (∃ a' cap', e = .returned (.agg #[.slice a' 0 cap', .int .i64 c, .int .i64 u, .bool d]) ∧ FOwn w' w.heap.size (.slice a' 0 cap') []) ∧ Below w.heap.size w w' := by
  obtain ⟨W, hW⟩ : ∃ W, W = ((w.alloc (.cells #[.slice none 0 0, .int .i64 c, .int .i64 u, .bool d] 26)).alloc (.cells #[.slice none 0 0, .int .i64 0, .int .i64 0, .bool false] 26)).alloc (.cells #[] 51) := ⟨_, rfl⟩
  have hA := alloc3 w (.cells #[.slice none 0 0, .int .i64 c, .int .i64 u, .bool d] 26) (.cells #[.slice none 0 0, .int .i64 0, .int .i64 0, .bool false] 26) (.cells #[] 51)
  rw [← hW] at hA
  have HO : Hid (FOwn W (w.heap.size + 2) (.slice (some ⟨w.heap.size + 1 + 1, 0, none⟩) 0 0) []) := hide (by
    refine ⟨rfl, .inr ⟨w.heap.size + 1 + 1, 0, #[], rfl, Nat.le_refl _, hA.2.2.2.2, Nat.le_refl _, by unfold maxLen; omega, rfl, rfl⟩⟩)
  have HS := hide hA.1
  have HB0 := hide hA.2.1
  have HC0 := hide hA.2.2.1
  have HC1 := hide hA.2.2.2.1
  clear hA
  obtain ⟨i0, hi, hz0, hz1, hz2⟩ := info_parts Tryd.infoF
  go_enter Tryd.func67, Tryd.ntmps67
  go_wp2_with (at_builtin; (try rw [← hW]); clear hW; refine wpList_append_own_none rfl (.tmp 3) (.tmp 5) 24 rfl (w.heap.size + 2) 51 i0 3 Tryd.underlying24 hi _ 0 [] rfl HO.out rfl ?_; obtain ⟨a0, a1, a2, a3, f0, -, -, -⟩ := cells4 HC0.out; obtain ⟨b0, b1, b2, b3, k0, k1, k2, k3⟩ := cells4 HC1.out)
  refine bodyPost_ret (v := .agg #[.slice (some ⟨w.heap.size + 1 + 1, 0, none⟩) 0 0, .int .i64 c, .int .i64 u, .bool d]) (by simp [results, Tryd.results67, go_sem, *]) rfl ⟨⟨_, _, rfl, ?_⟩, ?_⟩
  · refine FOwn.mono ?_ (Nat.le_add_right _ 2)
    (repeat (first | with_reducible (refine FOwn.setCell ?_ _ _ (by dsimp only; omega)) | with_reducible (exact HO.out)))
  · (repeat (first | with_reducible (refine Below.setCell ?_ (by dsimp only; omega) _) | with_reducible (exact HB0.out)))

theorem FRow.nil {w : World} {base n : Nat} {fs : List FileV} (h : FRow w base none n fs) : fs = [] ∧ n = 0 := by
  have hl := h.len
  cases fs with
  | nil => exact ⟨rfl, hl.symm⟩
  | cons f r =>
    obtain ⟨b, off, e, _⟩ := h.cells 0 (by simp)
    cases e
theorem specCopy_any (w : World) (a : Option Addr) (n cap : Nat) (fs : List FileV) (hr : FRow w 0 a n fs) (hc0 : a = none → cap = 0) (hn : n ≤ 1048576) (c u : Int) (d : Bool) :
    Calls Tryd.prog 67 #[.agg #[.slice a n cap, .int .i64 c, .int .i64 u, .bool d]] w fun e w' => (∃ a' cap', e = .returned (.agg #[.slice a' n cap', .int .i64 c, .int .i64 u, .bool d]) ∧ FOwn w' w.heap.size (.slice a' n cap') fs) ∧ Below w.heap.size w w' := by
  cases a with
  | none =>
    obtain ⟨rfl, rfl⟩ := hr.nil
    obtain rfl := hc0 rfl
    exact specCopy_nil w c u d
  | some ad => exact specCopy_some w ad n cap fs hr hn c u d

end Go.Proofs.YthhjomaccbpnbaaDoor
namespace Go.Proofs.YthhjomaccbpnbaaDoor
open Go.RowKit
open Plain

def begC (fs : List FileV) (c u : Int) (d : Bool) : Int := if diskOk fs c u = true then (if d = true ∨ u = 0 then 1 else 0) else 5
def begD (fs : List FileV) (c u : Int) (d : Bool) : Bool := if diskOk fs c u = true then (if u = 0 then true else d) else d
def begU (fs : List FileV) (c u : Int) (d : Bool) : Int := if diskOk fs c u = true ∧ d = false ∧ 0 < u then u - 1 else u

set_option maxRecDepth 100000 in
set_option maxHeartbeats 2000000 in
theorem specBegin_any (w : World) (a : Option Addr) (n cap : Nat) (fs : List FileV) (hr : FRow w 0 a n fs) (hc0 : a = none → cap = 0) (hn : n ≤ 1048576) (hz : szFs fs ≤ 1048576) (c u : Int) (d : Bool) (hu : -9223372036854775808 ≤ u) (hu2 : u ≤ 9223372036854775807) :
    Calls Tryd.prog 62 #[.agg #[.slice a n cap, .int .i64 c, .int .i64 u, .bool d]] w fun e w' => (∃ a' cap', e = .returned (.tuple #[.agg #[.slice a' n cap', .int .i64 c, .int .i64 (begU fs c u d), .bool (begD fs c u d)], .int .i64 (begC fs c u d)]) ∧ FOwn w' w.heap.size (.slice a' n cap') fs) ∧ Below w.heap.size w w' := by
  obtain ⟨W, hW⟩ : ∃ W, W = (w.alloc (.cells #[.slice a n cap, .int .i64 c, .int .i64 u, .bool d] 26)).alloc (.cells #[.slice none 0 0, .int .i64 0, .int .i64 0, .bool false] 26) := ⟨_, rfl⟩
  have hA := alloc2 w (.cells #[.slice a n cap, .int .i64 c, .int .i64 u, .bool d] 26) (.cells #[.slice none 0 0, .int .i64 0, .int .i64 0, .bool false] 26)
  rw [← hW] at hA
  have HS := hide hA.1
  have HB0 := hide hA.2.1
  have HC0 := hide hA.2.2.1
  have HC1 := hide hA.2.2.2
  clear hA
  have HR := hide (hr.later HB0.out (Nat.le_refl _))
  clear hr
  go_enter Tryd.func62, Tryd.ntmps62
  go_wp2_with fail
  rw [← hW]
  clear hW
  refine (specCopy_any W a n cap fs HR.out hc0 hn c u d).mono ?_
  rintro e w2 ⟨⟨a', cap', rfl, ho2⟩, hb2⟩
  obtain ⟨X, hX⟩ : ∃ X, X = w2.alloc (.cells #[.slice a' n cap', .int .i64 c, .int .i64 u, .bool d] 26) := ⟨_, rfl⟩
  have hsz2 : w.heap.size + 2 ≤ w2.heap.size := by have := HS.out; have := hb2.size; omega
  have HBX : Hid (Below w2.heap.size w2 X) := hide (by rw [hX]; exact (Below.refl _ _).alloc (Nat.le_refl _) _)
  have HXS : Hid (X.heap.size = w2.heap.size + 1) := hide (by rw [hX]; simp)
  have HCX : Hid (X.heap[w2.heap.size]? = some (.cells #[.slice a' n cap', .int .i64 c, .int .i64 u, .bool d] 26 (0, 0))) := hide (by rw [hX]; exact heap_alloc_new w2 _)
  have HD0 : Hid (X.heap[w.heap.size]? = some (.cells #[.slice a n cap, .int .i64 c, .int .i64 u, .bool d] 26 (0, 0))) := hide (((HBX.out.block _ (by omega)).trans (hb2.block _ (by have := HS.out; omega))).trans HC0.out)
  have HD1 : Hid (X.heap[w.heap.size + 1]? = some (.cells #[.slice none 0 0, .int .i64 0, .int .i64 0, .bool false] 26 (0, 0))) := hide (((HBX.out.block _ (by omega)).trans (hb2.block _ (by have := HS.out; omega))).trans HC1.out)
  have HOX := hide (ho2.later HBX.out (Nat.le_refl _))
  have HBK : Hid (∀ g, (Value.slice a' n cap').ownBlock = some g → w.heap.size + 2 ≤ g ∧ g < w2.heap.size) := hide (fun g hg => by have h := ho2.blk g hg; have := HS.out; omega)
  have HBW := hide (hb2.trans (HBX.out.mono hb2.size))
  have HRX := hide (HR.out.later HBW.out (Nat.le_refl _))
  have HB3 := hide (HB0.out.trans (HBW.out.mono HB0.out.size))
  have HSS := hide HS.out
  clear hb2 ho2 HC0 HC1 HR HB0 HBX HBW
  have hx0 := cells4 HD0.out
  rw [hX] at hx0
  obtain ⟨y0, y1, y2, y3, -, -, -, -⟩ := hx0
  go_wp2_with fail
  clear y0 y1 y2 y3
  rw [← hX]
  clear hX
  refine (specOk_any X a n cap fs HRX.out (by omega) (by omega) c u d).mono ?_
  rintro e w4 ⟨rfl, hb4⟩
  obtain ⟨x, hx⟩ : ∃ x, w2.heap.size = x := ⟨_, rfl⟩
  rw [hx] at HCX HXS hsz2 HBK
  rw [hx]
  obtain ⟨a0, a1, a2, a3, -, -, -, -⟩ := cells4 ((hb4.block _ (by have := HXS.out; omega)).trans HD0.out)
  obtain ⟨b0, b1, b2, b3, k0, k1, k2, k3⟩ := cells4 ((hb4.block _ (by have := HXS.out; omega)).trans HD1.out)
  obtain ⟨c0, c1, c2, c3, l0, l1, l2, l3⟩ := cells4 ((hb4.block _ (by have := HXS.out; omega)).trans HCX.out)
  have HO4 : Hid (FOwn w4 w.heap.size (.slice a' n cap') fs) := hide ((HOX.out.later hb4 (Nat.le_refl _)).mono (by have := HSS.out; omega))
  have HB4 := hide (HB3.out.trans (hb4.mono HB3.out.size))
  clear hb4 HD0 HD1 HCX HXS HOX HB3 HRX hx
  by_cases q1 : diskOk fs c u = true
  · rw [q1]
    cases d
    · by_cases q2 : u = 0
      · subst q2
        have HV : Hid (begU fs c 0 false = 0 ∧ begD fs c 0 false = true ∧ begC fs c 0 false = 1) := hide (by simp [begU, begD, begC, q1])
        clear q1
        go_wp2
        refine bodyPost_ret (v := .tuple #[.agg #[.slice a' n cap', .int .i64 c, .int .i64 0, .bool true], .int .i64 1]) (by simp [results, Tryd.results62, go_sem, *]) rfl ⟨⟨a', cap', by rw [HV.out.1, HV.out.2.1, HV.out.2.2], ?_⟩, ?_⟩
        · iterate 5 (refine FOwn.setNe ?_ _ _ (by intro q; have := HBK.out _ q; dsimp only at this; omega))
          exact HO4.out
        · iterate 5 (refine Below.setCell ?_ (by dsimp only; omega) _)
          exact HB4.out
      · have t2 : (u == 0) = false := by simpa using q2
        by_cases q3 : 0 < u
        · have HV : Hid (begU fs c u false = u - 1 ∧ begD fs c u false = false ∧ begC fs c u false = 0) := hide (by simp [begU, begD, begC, q1, q2, q3])
          clear q1
          go_wp2
          refine bodyPost_ret (v := .tuple #[.agg #[.slice a' n cap', .int .i64 c, .int .i64 (u - 1), .bool false], .int .i64 0]) (by simp [results, Tryd.results62, go_sem, *]) rfl ⟨⟨a', cap', by rw [HV.out.1, HV.out.2.1, HV.out.2.2], ?_⟩, ?_⟩
          · iterate 5 (refine FOwn.setNe ?_ _ _ (by intro q; have := HBK.out _ q; dsimp only at this; omega))
            exact HO4.out
          · iterate 5 (refine Below.setCell ?_ (by dsimp only; omega) _)
            exact HB4.out
        · have HV : Hid (begU fs c u false = u ∧ begD fs c u false = false ∧ begC fs c u false = 0) := hide (by simp [begU, begD, begC, q1, q2, q3])
          have t3 : decide (0 < u) = false := by simpa using q3
          clear q1
          go_wp2
          refine bodyPost_ret (v := .tuple #[.agg #[.slice a' n cap', .int .i64 c, .int .i64 u, .bool false], .int .i64 0]) (by simp [results, Tryd.results62, go_sem, *]) rfl ⟨⟨a', cap', by rw [HV.out.1, HV.out.2.1, HV.out.2.2], ?_⟩, ?_⟩
          · iterate 4 (refine FOwn.setNe ?_ _ _ (by intro q; have := HBK.out _ q; dsimp only at this; omega))
            exact HO4.out
          · iterate 4 (refine Below.setCell ?_ (by dsimp only; omega) _)
            exact HB4.out
    · have HV : Hid (begU fs c u true = u ∧ begD fs c u true = true ∧ begC fs c u true = 1) := hide (by simp [begU, begD, begC, q1])
      clear q1
      go_wp2
      refine bodyPost_ret (v := .tuple #[.agg #[.slice a' n cap', .int .i64 c, .int .i64 u, .bool true], .int .i64 1]) (by simp [results, Tryd.results62, go_sem, *]) rfl ⟨⟨a', cap', by rw [HV.out.1, HV.out.2.1, HV.out.2.2], ?_⟩, ?_⟩
      · iterate 5 (refine FOwn.setNe ?_ _ _ (by intro q; have := HBK.out _ q; dsimp only at this; omega))
        exact HO4.out
      · iterate 5 (refine Below.setCell ?_ (by dsimp only; omega) _)
        exact HB4.out
  · have q1' : diskOk fs c u = false := by simpa using q1
    have HV : Hid (begU fs c u d = u ∧ begD fs c u d = d ∧ begC fs c u d = 5) := hide (by simp [begU, begD, begC, q1'])
    rw [q1']
    clear q1 q1'
    go_wp2
    refine bodyPost_ret (v := .tuple #[.agg #[.slice a' n cap', .int .i64 c, .int .i64 u, .bool d], .int .i64 5]) (by simp [results, Tryd.results62, go_sem, *]) rfl ⟨⟨a', cap', by rw [HV.out.1, HV.out.2.1, HV.out.2.2], ?_⟩, ?_⟩
    · iterate 4 (refine FOwn.setNe ?_ _ _ (by intro q; have := HBK.out _ q; dsimp only at this; omega))
      exact HO4.out
    · iterate 4 (refine Below.setCell ?_ (by dsimp only; omega) _)
      exact HB4.out

end Go.Proofs.YthhjomaccbpnbaaDoor
namespace Go.Proofs.YthhjomaccbpnbaaDoor
open Go.RowKit
open Plain

/-- Where the five errors lie. -/
structure SentA where
  args : Addr
  has : Addr
  full : Addr
  down : Addr
  none : Addr
def SentA.at_ (A : SentA) (c : Int) : Addr := if c = 1 then A.down else if c = 2 then A.full else if c = 3 then A.none else if c = 4 then A.has else A.args
def errV (A : SentA) (c : Int) : Value := if c = 0 then .nilIface else .iface 124 (.pointer (some (A.at_ c)))
/-- A world in which the five variables hold them. -/
structure SentIn (w : World) (A : SentA) : Prop where
  cArgs : w.cell? ⟨1, 0, .none⟩ = some (.iface 124 (.pointer (some A.args)))
  cHas : w.cell? ⟨2, 0, .none⟩ = some (.iface 124 (.pointer (some A.has)))
  cFull : w.cell? ⟨0, 0, .none⟩ = some (.iface 124 (.pointer (some A.full)))
  cDown : w.cell? ⟨3, 0, .none⟩ = some (.iface 124 (.pointer (some A.down)))
  cNone : w.cell? ⟨4, 0, .none⟩ = some (.iface 124 (.pointer (some A.none)))
  bArgs : ∃ c t, w.heap[A.args.block]? = some (.cells c t (0, 0))
  bHas : ∃ c t, w.heap[A.has.block]? = some (.cells c t (0, 0))
  bFull : ∃ c t, w.heap[A.full.block]? = some (.cells c t (0, 0))
  bDown : ∃ c t, w.heap[A.down.block]? = some (.cells c t (0, 0))
  bNone : ∃ c t, w.heap[A.none.block]? = some (.cells c t (0, 0))
  ne : [A.args, A.has, A.full, A.down, A.none].Nodup
theorem cell_lt {w : World} {p : Addr} {v : Value} (h : w.cell? p = some v) : p.block < w.heap.size := by
  rcases Nat.lt_or_ge p.block w.heap.size with h' | h'
  · exact h'
  · simp [World.cell?, Array.getElem?_eq_none h'] at h
theorem blk_lt {w : World} {b : Nat} {o : Obj} (h : w.heap[b]? = some o) : b < w.heap.size := (Array.getElem?_eq_some_iff.1 h).1
theorem SentIn.later {w w' : World} {A : SentA} {K : Nat} (h : SentIn w A) (hb : Below K w w') (hK : w.heap.size ≤ K) : SentIn w' A where
  cArgs := by rw [hb.cell (Nat.lt_of_lt_of_le (cell_lt h.cArgs) hK)]; exact h.cArgs
  cHas := by rw [hb.cell (Nat.lt_of_lt_of_le (cell_lt h.cHas) hK)]; exact h.cHas
  cFull := by rw [hb.cell (Nat.lt_of_lt_of_le (cell_lt h.cFull) hK)]; exact h.cFull
  cDown := by rw [hb.cell (Nat.lt_of_lt_of_le (cell_lt h.cDown) hK)]; exact h.cDown
  cNone := by rw [hb.cell (Nat.lt_of_lt_of_le (cell_lt h.cNone) hK)]; exact h.cNone
  bArgs := by obtain ⟨c, t, h1⟩ := h.bArgs; exact ⟨c, t, (hb.block _ (Nat.lt_of_lt_of_le (blk_lt h1) hK)).trans h1⟩
  bHas := by obtain ⟨c, t, h1⟩ := h.bHas; exact ⟨c, t, (hb.block _ (Nat.lt_of_lt_of_le (blk_lt h1) hK)).trans h1⟩
  bFull := by obtain ⟨c, t, h1⟩ := h.bFull; exact ⟨c, t, (hb.block _ (Nat.lt_of_lt_of_le (blk_lt h1) hK)).trans h1⟩
  bDown := by obtain ⟨c, t, h1⟩ := h.bDown; exact ⟨c, t, (hb.block _ (Nat.lt_of_lt_of_le (blk_lt h1) hK)).trans h1⟩
  bNone := by obtain ⟨c, t, h1⟩ := h.bNone; exact ⟨c, t, (hb.block _ (Nat.lt_of_lt_of_le (blk_lt h1) hK)).trans h1⟩
  ne := h.ne
/-- errors.Is of one of the five against another one of the five. -/
theorem is_code (w : World) (A : SentA) (h : SentIn w A) (c k : Int) (hc : 1 ≤ c ∧ c ≤ 5) (hk : 1 ≤ k ∧ k ≤ 5) :
    Calls Tryd.prog 47 #[.iface 124 (.pointer (some (A.at_ c))), .iface 124 (.pointer (some (A.at_ k)))] w fun e w' => e = .returned (.bool (decide (c = k))) ∧ w' = w := by
  have hblk : ∀ z : Int, ∃ q t, w.heap[(A.at_ z).block]? = some (.cells q t (0, 0)) := fun z => by
    unfold SentA.at_
    by_cases h1 : z = 1
    · rw [if_pos h1]; exact h.bDown
    · rw [if_neg h1]
      by_cases h2 : z = 2
      · rw [if_pos h2]; exact h.bFull
      · rw [if_neg h2]
        by_cases h3 : z = 3
        · rw [if_pos h3]; exact h.bNone
        · rw [if_neg h3]
          by_cases h4 : z = 4
          · rw [if_pos h4]; exact h.bHas
          · rw [if_neg h4]; exact h.bArgs
  by_cases e : c = k
  · subst e
    rw [decide_eq_true rfl]
    exact is_same _ w
  · rw [decide_eq_false e]
    obtain ⟨q1, t1, h1⟩ := hblk c
    obtain ⟨q2, t2, h2⟩ := hblk k
    refine is_other _ _ q1 q2 t1 t2 w ?_ h1 h2
    have hn := h.ne
    simp only [List.nodup_cons, List.mem_cons, List.not_mem_nil, or_false, not_or, List.nodup_nil, and_true, not_false_iff] at hn
    obtain ⟨⟨n1, n2, n3, n4⟩, ⟨n5, n6, n7⟩, ⟨n8, n9⟩, n10⟩ := hn
    obtain rfl | rfl | rfl | rfl | rfl : c = 1 ∨ c = 2 ∨ c = 3 ∨ c = 4 ∨ c = 5 := by omega
    all_goals obtain rfl | rfl | rfl | rfl | rfl : k = 1 ∨ k = 2 ∨ k = 3 ∨ k = 4 ∨ k = 5 := by omega
    all_goals first | exact absurd rfl e | (simp [SentA.at_]; done) | (simp [SentA.at_]; assumption) | (simp [SentA.at_]; exact fun q => by simp_all)

end Go.Proofs.YthhjomaccbpnbaaDoor
namespace Go.Proofs.YthhjomaccbpnbaaDoor
open Go.RowKit
open Plain

/-- Go's cmp.Compare of two texts. -/
def cmpB (x y : ByteArray) : Int := if Op.bytesLess x.toList y.toList = true then -1 else if Op.bytesLess y.toList x.toList = true then 1 else 0

set_option maxRecDepth 100000 in
theorem isNaN_any (x : ByteArray) (w : World) : Calls Tryd.prog 51 #[.string x] w fun e w' => e = .returned (.bool false) ∧ w = w' := by
  go_enter Tryd.func51, Tryd.ntmps51
  go_wp2
  go_ret
  exact ⟨by simp, rfl⟩
set_option maxRecDepth 100000 in
set_option maxHeartbeats 1000000 in
theorem cmpS_any (x y : ByteArray) (w : World) : Calls Tryd.prog 38 #[.string x, .string y] w fun e w' => e = .returned (.int .i64 (cmpB x y)) ∧ w = w' := by
  by_cases h1 : Op.bytesLess x.toList y.toList = true
  · have HV : Hid (cmpB x y = -1) := hide (by unfold cmpB; rw [if_pos h1])
    go_enter Tryd.func38, Tryd.ntmps38
    go_wp2_with (go_at_call 51; refine (isNaN_any _ _).mono ?_; rintro e w' ⟨rfl, rfl⟩)
    go_ret
    exact ⟨by rw [HV.out]; rfl, rfl⟩
  · have h1' : Op.bytesLess x.toList y.toList = false := by simpa using h1
    by_cases h2 : Op.bytesLess y.toList x.toList = true
    · have HV : Hid (cmpB x y = 1) := hide (by unfold cmpB; rw [if_neg h1, if_pos h2])
      have h3 : (x.toList == y.toList) = false := by
        cases hq : (x.toList == y.toList) with
        | false => rfl
        | true => rw [beq_iff_eq.1 hq, bytesLess_lt] at h2; exact absurd (of_decide_eq_true h2) (List.lt_irrefl _)
      go_enter Tryd.func38, Tryd.ntmps38
      go_wp2_with (go_at_call 51; refine (isNaN_any _ _).mono ?_; rintro e w' ⟨rfl, rfl⟩)
      go_ret
      exact ⟨by rw [HV.out]; rfl, rfl⟩
    · have h2' : Op.bytesLess y.toList x.toList = false := by simpa using h2
      have HV : Hid (cmpB x y = 0) := hide (by unfold cmpB; rw [if_neg h1, if_neg h2])
      have h3 : (x.toList == y.toList) = true := by
        rw [bytesLess_lt] at h1' h2'
        rcases List.le_iff_lt_or_eq.1 (List.not_lt.1 (of_decide_eq_false h1')) with h | h
        · exact absurd h (of_decide_eq_false h2')
        · exact beq_iff_eq.2 h.symm
      go_enter Tryd.func38, Tryd.ntmps38
      go_wp2_with (go_at_call 51; refine (isNaN_any _ _).mono ?_; rintro e w' ⟨rfl, rfl⟩)
      go_ret
      exact ⟨by rw [HV.out]; rfl, rfl⟩

theorem tl (x : ByteArray) : x.toList = x.data.toList := Lib.toList_data x

end Go.Proofs.YthhjomaccbpnbaaDoor
namespace Go.Proofs.YthhjomaccbpnbaaDoor
open Go.RowKit
open Plain

theorem name_of_data {a b : ByteArray} (h : a.data.toList = b.data.toList) : a = b := by
  obtain ⟨⟨x⟩⟩ := a
  obtain ⟨⟨y⟩⟩ := b
  simp at h
  rw [h]
/-- Files in the order of their names. -/
def Rising (S : List FileV) : Prop := S.Pairwise (fun f g => f.name.data.toList < g.name.data.toList)
theorem okAt_of {fs : List FileV} {c u : Int} (h : diskOk fs c u = true) : ∀ i, i < fs.length → okAt fs i = true := by
  intro i hi
  unfold diskOk at h
  rw [Bool.and_eq_true] at h
  exact List.all_eq_true.1 h.2 i (by simpa using hi)
theorem len_of {fs : List FileV} {c u : Int} (h : diskOk fs c u = true) : fs.length ≤ 130 ∧ -1 ≤ u ∧ 0 ≤ c ∧ c ≤ 100000 ∧ (usedF fs : Int) ≤ c := by
  unfold diskOk headOk at h
  simp only [Bool.and_eq_true, decide_eq_true_eq] at h
  obtain ⟨⟨h1, h2, h3, h4⟩, _⟩ := h
  unfold inB at h2 h3
  simp only [decide_eq_true_eq] at h2 h3
  exact ⟨h1, h3.1, h2.1, h2.2, h4⟩
theorem rising_of {fs : List FileV} {c u : Int} (h : diskOk fs c u = true) : Rising fs := by
  have hk := okAt_of h
  have step : ∀ i, (hi : i + 1 < fs.length) → (fs[i]).name.data.toList < (fs[i + 1]).name.data.toList := fun i hi => by
    have h1 := hk (i + 1) hi
    unfold okAt at h1
    have e1 : fs.getD (i + 1) zeroF = fs[i + 1] := by simp [List.getD, hi]
    have e2 : fs.getD (i + 1 - 1) zeroF = fs[i] := by simp [List.getD, show i < fs.length by omega]
    rw [e1, e2] at h1
    simp only [Bool.and_eq_true, Bool.or_eq_true, decide_eq_true_eq, Nat.add_eq_zero_iff, Nat.one_ne_zero, and_false, false_or, Bool.not_eq_true'] at h1
    have h2 := h1.2
    rw [sle_less, bytesLess_lt] at h2
    have h3 := of_decide_eq_true (by simpa using h2 : decide ((fs[i]).name.toList < (fs[i + 1]).name.toList) = true)
    rw [tl, tl] at h3
    exact h3
  have far : ∀ k i, (hi : i + k + 1 < fs.length) → (fs[i]).name.data.toList < (fs[i + k + 1]).name.data.toList := by
    intro k
    induction k with
    | zero => intro i hi; exact step i hi
    | succ k ih => intro i hi; exact List.lt_trans (ih i (by omega)) (step (i + k + 1) hi)
  unfold Rising
  rw [List.pairwise_iff_getElem]
  intro i j hi hj hij
  obtain ⟨k, rfl⟩ : ∃ k, j = i + k + 1 := ⟨j - i - 1, by omega⟩
  exact far k i hj
theorem findF_none {fs : List FileV} {nm : ByteArray} (h : findF fs nm < 0) : ∀ g, g ∈ fs → g.name ≠ nm := by
  intro g hg e
  obtain ⟨j, hj, rfl⟩ := List.mem_iff_getElem.1 hg
  unfold findF at h
  cases hf : fs.findIdx? (fun f => decide (f.name = nm)) with
  | none =>
    rw [List.findIdx?_eq_none_iff] at hf
    have := hf _ (List.getElem_mem hj)
    simp [e] at this
  | some i => rw [hf] at h; simp at h; omega
theorem findF_name {fs : List FileV} {nm : ByteArray} (h : ¬ findF fs nm < 0) : ∃ k : Nat, findF fs nm = (k : Int) ∧ ∃ hk : k < fs.length, (fs[k]).name = nm := by
  unfold findF at *
  cases hf : fs.findIdx? (fun f => decide (f.name = nm)) with
  | none => rw [hf] at h; simp at h
  | some i =>
    rw [List.findIdx?_eq_some_iff_getElem] at hf
    obtain ⟨h1, h2, _⟩ := hf
    exact ⟨i, rfl, h1, by simpa using h2⟩
theorem getD_of {fs : List FileV} {k : Nat} (hk : k < fs.length) : fs.getD k zeroF = fs[k] := by simp [List.getD, hk]

end Go.Proofs.YthhjomaccbpnbaaDoor
namespace Go.Proofs.YthhjomaccbpnbaaDoor
open Go.RowKit Go.Maps
open Plain

def FileV.val (f : FileV) : Value := .agg #[.string f.name, .string f.text, .int .i64 f.safe]
def fileD (f : FileV) : DataW Unit := .agg [.lit (.string f.name.data.toList), .lit (.string f.text.data.toList), .lit (.int .i64 f.safe)]
theorem fileD_inj {f g : FileV} (h : fileD f = fileD g) : f = g := by
  obtain ⟨⟨⟨n⟩⟩, ⟨⟨t⟩⟩, s⟩ := f
  obtain ⟨⟨⟨n'⟩⟩, ⟨⟨t'⟩⟩, s'⟩ := g
  simp [fileD] at h
  obtain ⟨rfl, rfl, rfl⟩ := h
  rfl
/-- How a file in the map reads. -/
def fileElem : Value → Option (DataW Unit × List MemPlace)
  | .agg cs => match cs.toList with
    | [.string n, .string t, .int .i64 s] => some (fileD ⟨n, t, s⟩, [])
    | _ => none
  | _ => none
theorem fileElem_mk (f : FileV) : fileElem f.val = some (fileD f, []) := rfl
theorem fileElem_inv {v : Value} {z : DataW Unit × List MemPlace} (h : fileElem v = some z) : ∃ f : FileV, v = f.val ∧ z = (fileD f, []) := by
  unfold fileElem at h
  split at h
  · rename_i cs
    split at h
    · rename_i n t s e
      cases h
      refine ⟨⟨n, t, s⟩, ?_, rfl⟩
      obtain ⟨l⟩ := cs
      simp only at e
      subst e
      rfl
    · cases h
  · cases h
def litN (f : FileV) : Lit := .string f.name.data.toList
theorem litN_key (f : FileV) : WideAt.IsKeyLit (litN f) := trivial

/-- The map holds just these files. -/
structure Shows (D : DataW Unit) (S : List FileV) : Prop where
  tidy : Tidy D
  apart : S.Pairwise (fun f g => f.name ≠ g.name)
  size : Maps.size D = S.length
  at_ : ∀ f, f ∈ S → ∀ z, D.atKey (litN f) z = fileD f
  has_ : ∀ x : ByteArray, has D (.string x.data.toList) = true ↔ ∃ f, f ∈ S ∧ f.name = x
theorem Shows.empty : Shows (.map []) [] where
  tidy := tidy_empty
  apart := List.Pairwise.nil
  size := rfl
  at_ := fun f hf => by simp at hf
  has_ := fun x => by simp [has]
theorem Shows.perm {D : DataW Unit} {S S' : List FileV} (h : Shows D S) (hp : S.Perm S') : Shows D S' where
  tidy := h.tidy
  apart := (hp.pairwise_iff (fun {_ _} hne => Ne.symm hne)).1 h.apart
  size := by rw [h.size, hp.length_eq]
  at_ := fun f hf => h.at_ f (hp.mem_iff.2 hf)
  has_ := fun x => (h.has_ x).trans ⟨fun ⟨f, h1, h2⟩ => ⟨f, hp.mem_iff.1 h1, h2⟩, fun ⟨f, h1, h2⟩ => ⟨f, hp.mem_iff.2 h1, h2⟩⟩
theorem lit_ne {x y : ByteArray} (h : x ≠ y) : (Lit.string x.data.toList) ≠ Lit.string y.data.toList := fun e => h (name_of_data (by simpa using e))
/-- The files of another name. -/
def others (S : List FileV) (x : ByteArray) : List FileV := S.filter (fun g => decide (g.name ≠ x))
theorem mem_others {S : List FileV} {x : ByteArray} {g : FileV} : g ∈ others S x ↔ g ∈ S ∧ g.name ≠ x := by simp [others]
theorem apart_eq {S : List FileV} (h : S.Pairwise (fun f g => f.name ≠ g.name)) {f g : FileV} (hf : f ∈ S) (hg : g ∈ S) (e : f.name = g.name) : f = g := by
  induction S with
  | nil => simp at hf
  | cons a r ih =>
    obtain ⟨h1, h2⟩ := List.pairwise_cons.1 h
    rcases List.mem_cons.1 hf with ef | hf'
    · rcases List.mem_cons.1 hg with eg | hg'
      · rw [ef, eg]
      · exact absurd (ef ▸ e) (h1 g hg')
    · rcases List.mem_cons.1 hg with eg | hg'
      · exact absurd (eg ▸ e).symm (h1 f hf')
      · exact ih h2 hf' hg'
theorem others_none {S : List FileV} {x : ByteArray} (h : ∀ g, g ∈ S → g.name ≠ x) : others S x = S := by
  unfold others
  rw [List.filter_eq_self]
  intro g hg
  simpa using h g hg
theorem length_others {S : List FileV} (h : S.Pairwise (fun f g => f.name ≠ g.name)) {f : FileV} (hf : f ∈ S) : (others S f.name).length + 1 = S.length := by
  induction S with
  | nil => simp at hf
  | cons a r ih =>
    obtain ⟨h1, h2⟩ := List.pairwise_cons.1 h
    rcases List.mem_cons.1 hf with rfl | hf
    · have : others (f :: r) f.name = r := by
        have e := others_none (S := r) (x := f.name) (fun g hg e => h1 g hg e.symm)
        unfold others at e ⊢
        rw [List.filter_cons_of_neg (by simp), e]
      rw [this]
      rfl
    · have hne : a.name ≠ f.name := h1 f hf
      have : others (a :: r) f.name = a :: others r f.name := by
        unfold others
        rw [List.filter_cons_of_pos (by simpa using hne)]
      rw [this, List.length_cons, List.length_cons, ih h2 hf]
theorem Shows.put {D : DataW Unit} {S : List FileV} (h : Shows D S) (f : FileV) : Shows (D.put (litN f) (fileD f)) (f :: others S f.name) where
  tidy := h.tidy.put (litN_key f) _
  apart := List.pairwise_cons.2 ⟨fun g hg e => (mem_others.1 hg).2 e.symm, h.apart.sublist List.filter_sublist⟩
  size := by
    rw [size_put h.tidy]
    by_cases hh : has D (litN f) = true
    · obtain ⟨g, hg, e⟩ := (h.has_ f.name).1 hh
      have := length_others h.apart hg
      rw [e] at this
      rw [if_pos hh, h.size, List.length_cons, this]
    · have hn : ∀ g, g ∈ S → g.name ≠ f.name := fun g hg e => hh ((h.has_ f.name).2 ⟨g, hg, e⟩)
      rw [if_neg hh, h.size, others_none hn, List.length_cons]
  at_ := fun g hg z => by
    rcases List.mem_cons.1 hg with rfl | hg
    · exact atKey_put_same h.tidy.isMap (litN_key g) _ _
    · obtain ⟨h1, h2⟩ := mem_others.1 hg
      rw [atKey_put_other (show litN g ≠ litN f from lit_ne h2)]
      exact h.at_ g h1 z
  has_ := fun x => by
    by_cases e : x = f.name
    · subst e
      rw [show has (D.put (litN f) (fileD f)) (.string f.name.data.toList) = true from has_put_same h.tidy.isMap (litN_key f) _]
      exact ⟨fun _ => ⟨f, List.mem_cons_self, rfl⟩, fun _ => rfl⟩
    · rw [has_put_other (show (Lit.string x.data.toList) ≠ litN f from lit_ne e), h.has_ x]
      constructor
      · rintro ⟨g, h1, rfl⟩
        exact ⟨g, List.mem_cons_of_mem _ (mem_others.2 ⟨h1, e⟩), rfl⟩
      · rintro ⟨g, h1, rfl⟩
        rcases List.mem_cons.1 h1 with rfl | h1
        · exact absurd rfl e
        · exact ⟨g, (mem_others.1 h1).1, rfl⟩
theorem Shows.del {D : DataW Unit} {S : List FileV} (h : Shows D S) (x : ByteArray) : Shows (D.del (.string x.data.toList)) (others S x) where
  tidy := h.tidy.del _
  apart := h.apart.sublist List.filter_sublist
  size := by
    have hs := size_del (k := .string x.data.toList) h.tidy
    by_cases hh : has D (.string x.data.toList) = true
    · obtain ⟨g, hg, rfl⟩ := (h.has_ x).1 hh
      have := length_others h.apart hg
      rw [if_pos hh, h.size] at hs
      omega
    · have hn : ∀ g, g ∈ S → g.name ≠ x := fun g hg e => hh ((h.has_ x).2 ⟨g, hg, e⟩)
      rw [if_neg hh, h.size] at hs
      rw [others_none hn]
      omega
  at_ := fun g hg z => by
    obtain ⟨h1, h2⟩ := mem_others.1 hg
    rw [atKey_del_other (show litN g ≠ .string x.data.toList from lit_ne h2)]
    exact h.at_ g h1 z
  has_ := fun y => by
    by_cases e : y = x
    · subst e
      rw [has_del_same]
      constructor
      · intro h; cases h
      · rintro ⟨g, h1, h2⟩
        exact absurd h2 (mem_others.1 h1).2
    · rw [has_del_other (lit_ne e), h.has_ y]
      constructor
      · rintro ⟨g, h1, rfl⟩
        exact ⟨g, mem_others.2 ⟨h1, e⟩, rfl⟩
      · rintro ⟨g, h1, rfl⟩
        exact ⟨g, (mem_others.1 h1).1, rfl⟩
theorem Shows.no {D : DataW Unit} {S : List FileV} (h : Shows D S) {x : ByteArray} (hn : ∀ g, g ∈ S → g.name ≠ x) : has D (.string x.data.toList) = false := by
  cases hh : has D (.string x.data.toList) with
  | false => rfl
  | true =>
    obtain ⟨g, h1, h2⟩ := (h.has_ x).1 hh
    exact absurd h2 (hn g h1)

theorem Rising.apart {S : List FileV} (h : Rising S) : S.Pairwise (fun f g => f.name ≠ g.name) := h.imp (fun {a b} hab e => by rw [e] at hab; exact List.lt_irrefl _ hab)
/-- A list that is sorted by name, of the files of one that rises: that one. -/
theorem Rising.eq_of {S T : List FileV} (h : Rising S) (hp : T.Perm S) (hs : T.Pairwise (fun f g => ¬ g.name.data.toList < f.name.data.toList)) : T = S := by
  refine List.Perm.eq_of_pairwise (le := fun f g => ¬ g.name.data.toList < f.name.data.toList) (fun a b ha hb h1 h2 => ?_) hs (h.imp (fun {a b} hab => List.lt_asymm hab)) hp
  refine apart_eq h.apart (hp.mem_iff.1 ha) hb (name_of_data ?_)
  rcases List.le_iff_lt_or_eq.1 (List.not_lt.1 h1) with h3 | h3
  · exact absurd h3 h2
  · exact h3

end Go.Proofs.YthhjomaccbpnbaaDoor
namespace Go.Proofs.YthhjomaccbpnbaaDoor
open Go.RowKit Go.Maps
open Plain

theorem keyLaw : Keyed Tryd.prog 9 := string_keyed Tryd.underlying9
/-- Block B is a map of at most n entries that holds these files. -/
def MOwn (w : World) (B n : Nat) (S : List FileV) : Prop := ∃ D, w.ownsMap Tryd.prog 9 fileElem B n D ∧ Shows D S

theorem makeMapN (n : Int) (w : World) : (Instr.makeMap 47 (some (.int .i64 n))).run Tryd.prog w = .ok (.map (some w.heap.size)) (w.alloc (.map #[] 0)) := by
  simp [Instr.makeMap, run_underlying Tryd.underlying47, go_sem]

set_option maxRecDepth 100000 in
set_option maxHeartbeats 1000000 in
theorem implByName_any (w : World) (a : Option Addr) (n cap : Nat) (fs : List FileV) (hr : FRow w 0 a n fs) (hn : n ≤ 130) (hz : szFs fs ≤ 1099511627776) (hap : fs.Pairwise (fun f g => f.name ≠ g.name)) :
    Calls Tryd.prog 49 #[.slice a n cap] w fun e w' => (e = .returned (.map (some w.heap.size)) ∧ MOwn w' w.heap.size 131 fs) ∧ Below w.heap.size w w' := by
  have HR := hide hr
  have hlen := hr.len
  have hmm := makeMapN
  clear hr
  go_enter Tryd.func49, Tryd.ntmps49
  go_wp2
  go_loopw [11] (fun i wr => ∃ k : Nat, k ≤ n ∧ i = .int .i64 k ∧ Hid (MOwn wr w.heap.size k (fs.take k).reverse) ∧ Hid (Below w.heap.size w wr)) (fun i _ => n - (intOf i).toNat)
  case atStart => exact ⟨0, by omega, rfl, hide ⟨_, World.ownsMap_made w _ _ _, by simpa using Shows.empty⟩, hide ((Below.refl _ _).alloc (Nat.le_refl _) _)⟩
  case round =>
    obtain ⟨k, hk, rfl, HM, HB⟩ := hrel
    by_cases hlt : k < n
    · have hkf : k < fs.length := by omega
      obtain ⟨b, off, rfl, -, hbw, e1, e2, e3⟩ := (HR.out.later HB.out (Nat.le_refl _)).cells k hkf
      have hnsz : (fs[k]).name.size ≤ 1099511627776 := Nat.le_trans (name_le fs k hkf) hz
      obtain ⟨D, hown, hsh⟩ := HM.out
      have HSH : Hid (Shows (D.put (litN (fs[k])) (fileD (fs[k]))) (fs.take (k + 1)).reverse) := hide (by
        have h1 := hsh.put (fs[k])
        rw [others_none (fun g hg e => by
          rw [List.mem_reverse] at hg
          obtain ⟨j, hj, rfl⟩ := List.mem_iff_getElem.1 hg
          rw [List.length_take] at hj
          rw [List.getElem_take] at e
          exact List.pairwise_iff_getElem.1 hap j k (by omega) hkf (by omega) e)] at h1
        rw [List.take_succ_eq_append_getElem hkf, List.reverse_append]
        exact h1)
      have HOW := hide (hown.alloc (.cells #[.string (fs[k]).name, .string (fs[k]).text, .int .i64 (fs[k]).safe] 51))
      have hkey : keyOf Tryd.prog 9 (.string (fs[k]).name) = some (litN (fs[k])) := WideMaps.keyOf_string_mk Tryd.underlying9 (by unfold maxLen; omega)
      have hB := hown.lt
      clear hown hsh HM
      go_wp2_with (at_mapUpdate; refine wpList_mapUpdate_own _ rfl _ _ _ 47 rfl 9 51 keyLaw Tryd.underlying47 _ w.heap.size k _ rfl HOW.out (by unfold maxLen; omega) _ _ _ rfl rfl hkey _ [] (fileElem_mk (fs[k])) ?_; intro w1 hown1 hgrow1; have HO1 := hide hown1; have HG1 := hide hgrow1; clear hown1 hgrow1)
      go_roundw
      case rel => exact ⟨k + 1, by omega, by go_num, hide ⟨_, HO1.out, HSH.out⟩, hide ((HB.out.alloc HB.out.size _).grown HG1.out (HB.out.alloc HB.out.size _).size (fun j hj => by cases hj; exact Nat.le_refl _))⟩
      case measure => first | (simp [intOf]; done) | (simp [intOf]; omega)
    · obtain rfl : k = n := by omega
      have HE : Hid (MOwn wr w.heap.size 131 fs) := hide (by
        obtain ⟨D, hown, hsh⟩ := HM.out
        rw [List.take_of_length_le (by omega)] at hsh
        exact ⟨D, hown.mono (by omega), hsh.perm (List.reverse_perm fs)⟩)
      clear HM
      go_wp2
      go_ret
      exact ⟨⟨rfl, HE.out⟩, HB.out⟩

end Go.Proofs.YthhjomaccbpnbaaDoor
namespace Go.Proofs.YthhjomaccbpnbaaDoor
open Go.RowKit Go.Maps
open Plain

theorem is_code' (w : World) (A : SentA) (h : SentIn w A) (c k : Int) (hc : 1 ≤ c ∧ c ≤ 5) (hk : 1 ≤ k ∧ k ≤ 5) :
    Calls Tryd.prog 47 #[.iface 124 (.pointer (some (A.at_ c))), .iface 124 (.pointer (some (A.at_ k)))] w fun e w' => e = .returned (.bool (decide (c = k))) ∧ w = w' :=
  (is_code w A h c k hc hk).mono fun _ _ ⟨h1, h2⟩ => ⟨h1, h2.symm⟩
theorem at1 (A : SentA) : A.at_ 1 = A.down := rfl
theorem at2 (A : SentA) : A.at_ 2 = A.full := rfl
theorem at3 (A : SentA) : A.at_ 3 = A.none := rfl
theorem at4 (A : SentA) : A.at_ 4 = A.has := rfl
theorem at5 (A : SentA) : A.at_ 5 = A.args := rfl

set_option maxRecDepth 100000 in
set_option maxHeartbeats 1000000 in
theorem implCode_any (w : World) (A : SentA) (h : SentIn w A) (c : Int) (hc : 0 ≤ c ∧ c ≤ 5) :
    Calls Tryd.prog 48 #[errV A c] w fun e w' => e = .returned (.int .i64 c) ∧ w = w' := by
  have c1 := h.cDown
  have c2 := h.cFull
  have c3 := h.cNone
  have c4 := h.cHas
  have HI := hide (is_code' w A h)
  clear h
  obtain rfl | rfl | rfl | rfl | rfl | rfl : c = 0 ∨ c = 1 ∨ c = 2 ∨ c = 3 ∨ c = 4 ∨ c = 5 := by omega
  · rw [show errV A 0 = .nilIface from rfl]
    go_enter Tryd.func48, Tryd.ntmps48
    go_wp2
    go_ret
    exact ⟨rfl, rfl⟩
  · rw [show errV A 1 = .iface 124 (.pointer (some A.down)) from rfl]
    have i1 := hide (HI.out 1 1 (by omega) (by omega))
    rw [at1] at i1
    go_enter Tryd.func48, Tryd.ntmps48
    go_wp2_with fail
    refine i1.out.mono ?_
    rintro e w2 ⟨rfl, rfl⟩
    go_wp2
    go_ret
    exact ⟨rfl, rfl⟩
  · rw [show errV A 2 = .iface 124 (.pointer (some A.full)) from rfl]
    have i1 := hide (HI.out 2 1 (by omega) (by omega))
    rw [at2, at1] at i1
    have i2 := hide (HI.out 2 2 (by omega) (by omega))
    rw [at2] at i2
    go_enter Tryd.func48, Tryd.ntmps48
    go_wp2_with fail
    refine i1.out.mono ?_
    rintro e w2 ⟨rfl, rfl⟩
    go_wp2_with fail
    refine i2.out.mono ?_
    rintro e w2 ⟨rfl, rfl⟩
    go_wp2
    go_ret
    exact ⟨rfl, rfl⟩
  · rw [show errV A 3 = .iface 124 (.pointer (some A.none)) from rfl]
    have i1 := hide (HI.out 3 1 (by omega) (by omega))
    rw [at3, at1] at i1
    have i2 := hide (HI.out 3 2 (by omega) (by omega))
    rw [at3, at2] at i2
    have i3 := hide (HI.out 3 3 (by omega) (by omega))
    rw [at3] at i3
    go_enter Tryd.func48, Tryd.ntmps48
    go_wp2_with fail
    refine i1.out.mono ?_
    rintro e w2 ⟨rfl, rfl⟩
    go_wp2_with fail
    refine i2.out.mono ?_
    rintro e w2 ⟨rfl, rfl⟩
    go_wp2_with fail
    refine i3.out.mono ?_
    rintro e w2 ⟨rfl, rfl⟩
    go_wp2
    go_ret
    exact ⟨rfl, rfl⟩
  · rw [show errV A 4 = .iface 124 (.pointer (some A.has)) from rfl]
    have i1 := hide (HI.out 4 1 (by omega) (by omega))
    rw [at4, at1] at i1
    have i2 := hide (HI.out 4 2 (by omega) (by omega))
    rw [at4, at2] at i2
    have i3 := hide (HI.out 4 3 (by omega) (by omega))
    rw [at4, at3] at i3
    have i4 := hide (HI.out 4 4 (by omega) (by omega))
    rw [at4] at i4
    go_enter Tryd.func48, Tryd.ntmps48
    go_wp2_with fail
    refine i1.out.mono ?_
    rintro e w2 ⟨rfl, rfl⟩
    go_wp2_with fail
    refine i2.out.mono ?_
    rintro e w2 ⟨rfl, rfl⟩
    go_wp2_with fail
    refine i3.out.mono ?_
    rintro e w2 ⟨rfl, rfl⟩
    go_wp2_with fail
    refine i4.out.mono ?_
    rintro e w2 ⟨rfl, rfl⟩
    go_wp2
    go_ret
    exact ⟨rfl, rfl⟩
  · rw [show errV A 5 = .iface 124 (.pointer (some A.args)) from rfl]
    have i1 := hide (HI.out 5 1 (by omega) (by omega))
    rw [at5, at1] at i1
    have i2 := hide (HI.out 5 2 (by omega) (by omega))
    rw [at5, at2] at i2
    have i3 := hide (HI.out 5 3 (by omega) (by omega))
    rw [at5, at3] at i3
    have i4 := hide (HI.out 5 4 (by omega) (by omega))
    rw [at5, at4] at i4
    go_enter Tryd.func48, Tryd.ntmps48
    go_wp2_with fail
    refine i1.out.mono ?_
    rintro e w2 ⟨rfl, rfl⟩
    go_wp2_with fail
    refine i2.out.mono ?_
    rintro e w2 ⟨rfl, rfl⟩
    go_wp2_with fail
    refine i3.out.mono ?_
    rintro e w2 ⟨rfl, rfl⟩
    go_wp2_with fail
    refine i4.out.mono ?_
    rintro e w2 ⟨rfl, rfl⟩
    go_wp2
    go_ret
    exact ⟨rfl, rfl⟩

set_option maxRecDepth 100000 in
set_option maxHeartbeats 1000000 in
theorem implReady_any (w : World) (A : SentA) (h : SentIn w A) (a : Option Addr) (n cap : Nat) (fs : List FileV) (hr : FRow w 0 a n fs) (hn : n ≤ 1048576) (hz : szFs fs ≤ 1048576) (c u : Int) (d : Bool) :
    Calls Tryd.prog 46 #[.agg #[.slice a n cap, .int .i64 c, .int .i64 u, .bool d]] w fun e w' => e = .returned (errV A (begC fs c u d)) ∧ Below w.heap.size w w' := by
  have hbx := box4 w (.slice a n cap) (.int .i64 c) (.int .i64 u) (.bool d) 26
  obtain ⟨W, hW⟩ : ∃ W, W = w.alloc (.cells #[.slice a n cap, .int .i64 c, .int .i64 u, .bool d] 26) := ⟨_, rfl⟩
  rw [← hW] at hbx
  have HR := hide (hr.later hbx.1 (Nat.le_refl _))
  have HB := hide hbx.1
  have HX := hide hbx.2
  have HS : Hid (w.heap.size < W.heap.size) := hide (by rw [hW]; simp)
  have HSE := hide (h.later hbx.1 (Nat.le_refl _))
  clear hr hbx h
  go_enter Tryd.func46, Tryd.ntmps46
  go_wp2_with fail
  rw [← hW]
  clear hW
  refine (implOk_any W a n cap fs HR.out (by omega) (by omega) c u d).mono ?_
  rintro e w1 ⟨rfl, hb1⟩
  have HX1 := hide ((hb1.block _ HS.out).trans HX.out)
  have HB1 := hide (HB.out.trans (hb1.mono HB.out.size))
  have HS1 := hide (HSE.out.later hb1 (Nat.le_refl _))
  have hs1 : w.heap.size < w1.heap.size := Nat.lt_of_lt_of_le HS.out hb1.size
  clear hb1 HR HX HB HS HSE
  have cD := HS1.out.cDown
  have cA := HS1.out.cArgs
  by_cases q : diskOk fs c u = true
  · rw [q]
    obtain ⟨y0, y1, y2, y3, -⟩ := cells4 HX1.out
    cases d
    · by_cases q2 : u = 0
      · subst q2
        have HV : Hid (begC fs c 0 false = 1) := hide (by simp [begC, q])
        clear q
        go_wp2
        go_ret
        exact ⟨by rw [HV.out]; rfl, HB1.out⟩
      · have HV : Hid (begC fs c u false = 0) := hide (by simp [begC, q, q2])
        have t2 : (u == 0) = false := by simpa using q2
        clear q
        go_wp2
        go_ret
        exact ⟨by rw [HV.out]; rfl, HB1.out⟩
    · have HV : Hid (begC fs c u true = 1) := hide (by simp [begC, q])
      clear q
      go_wp2
      go_ret
      exact ⟨by rw [HV.out]; rfl, HB1.out⟩
  · have q' : diskOk fs c u = false := by simpa using q
    have HV : Hid (begC fs c u d = 5) := hide (by simp [begC, q'])
    rw [q']
    clear q q'
    go_wp2
    go_ret
    exact ⟨by rw [HV.out]; rfl, HB1.out⟩

theorem zeroF_val (w : World) : (zeroValue 51).run Tryd.prog w = .ok (.agg #[.string ⟨#[]⟩, .string ⟨#[]⟩, .int .i64 0]) w := by kernel_rfl

set_option maxRecDepth 100000 in
set_option maxHeartbeats 1000000 in
/-- There is such a file. -/
theorem implFileOf_yes (w : World) (B n : Nat) (S : List FileV) (hm : MOwn w B n S) (f : FileV) (hf : f ∈ S) (hs : f.name.size ≤ 1099511627776) :
    Calls Tryd.prog 23 #[.map (some B), .string f.name] w fun e w' => e = .returned (.tuple #[.agg #[.string f.name, .string f.text, .int .i64 f.safe], .nilIface]) ∧ Below w.heap.size w w' := by
  obtain ⟨D, hown, hsh⟩ := hm
  have HO := hide hown
  have hkey : keyOf Tryd.prog 9 (.string f.name) = some (litN f) := WideMaps.keyOf_string_mk Tryd.underlying9 (by unfold maxLen; omega)
  have hh : has D (litN f) = true := (hsh.has_ f.name).2 ⟨f, hf, rfl⟩
  have ha := hsh.at_ f hf
  have hb := hown.lt
  have HL : Hid (∀ W : World, W.ownsMap Tryd.prog 9 fileElem B n D → (Instr.lookup 47 (.map (some B)) (.string f.name) true).run Tryd.prog W = .ok (.tuple #[.agg #[.string f.name, .string f.text, .int .i64 f.safe], .bool true]) W) := hide (fun W hW => by
    obtain ⟨v, ps, h1, h2⟩ := hW.look_ok keyLaw Tryd.underlying47 (zeroF_val W) (zd := fileD zeroF) (zp := []) (fileElem_mk zeroF) hkey
    rw [ha] at h2
    obtain ⟨g, rfl, e⟩ := fileElem_inv h2
    simp only [Prod.mk.injEq] at e
    rw [hh] at h1
    rw [h1, ← fileD_inj e.1]
    rfl)
  have hl := HL.out (w.alloc (.cells #[.string ⟨#[]⟩, .string ⟨#[]⟩, .int .i64 0] 51)) (hown.alloc _)
  clear hown hsh hkey hh ha HL HO
  go_enter Tryd.func23, Tryd.ntmps23
  go_wp2
  refine bodyPost_ret (v := .tuple #[.agg #[.string f.name, .string f.text, .int .i64 f.safe], .nilIface]) (by simp [results, Tryd.results23, go_sem]) rfl ⟨rfl, ?_⟩
  exact (alloc2 w _ _).2.1

set_option maxRecDepth 100000 in
set_option maxHeartbeats 1000000 in
/-- There is none. -/
theorem implFileOf_no (w : World) (A : SentA) (h : SentIn w A) (B n : Nat) (S : List FileV) (hm : MOwn w B n S) (x : ByteArray) (hx : ∀ g, g ∈ S → g.name ≠ x) (hs : x.size ≤ 1099511627776) :
    Calls Tryd.prog 23 #[.map (some B), .string x] w fun e w' => e = .returned (.tuple #[.agg #[.string ⟨#[]⟩, .string ⟨#[]⟩, .int .i64 0], .iface 124 (.pointer (some A.none))]) ∧ Below w.heap.size w w' := by
  obtain ⟨D, hown, hsh⟩ := hm
  have hkey : keyOf Tryd.prog 9 (.string x) = some (.string x.data.toList) := WideMaps.keyOf_string_mk Tryd.underlying9 (by unfold maxLen; omega)
  have hh := hsh.no hx
  have HL : Hid (∀ W : World, W.ownsMap Tryd.prog 9 fileElem B n D → (Instr.lookup 47 (.map (some B)) (.string x) true).run Tryd.prog W = .ok (.tuple #[.agg #[.string ⟨#[]⟩, .string ⟨#[]⟩, .int .i64 0], .bool false]) W) := hide (fun W hW => by
    obtain ⟨v, ps, h1, h2⟩ := hW.look_ok keyLaw Tryd.underlying47 (zeroF_val W) (zd := fileD zeroF) (zp := []) (fileElem_mk zeroF) hkey
    rw [atKey_of_not_has hh] at h2
    obtain ⟨g, rfl, e⟩ := fileElem_inv h2
    simp only [Prod.mk.injEq] at e
    rw [hh] at h1
    rw [h1, ← fileD_inj e.1]
    rfl)
  have hl := HL.out (w.alloc (.cells #[.string ⟨#[]⟩, .string ⟨#[]⟩, .int .i64 0] 51)) (hown.alloc _)
  obtain ⟨Y, hY⟩ : ∃ Y, Y = (w.alloc (.cells #[.string ⟨#[]⟩, .string ⟨#[]⟩, .int .i64 0] 51)).alloc (.cells #[.string ⟨#[]⟩, .string ⟨#[]⟩, .int .i64 0] 51) := ⟨_, rfl⟩
  have hA := alloc2 w (.cells #[.string ⟨#[]⟩, .string ⟨#[]⟩, .int .i64 0] 51) (.cells #[.string ⟨#[]⟩, .string ⟨#[]⟩, .int .i64 0] 51)
  rw [← hY] at hA
  have HBY := hide hA.2.1
  have g4 := (h.later hA.2.1 (Nat.le_refl _)).cNone
  have l4 : 4 < w.heap.size := cell_lt h.cNone
  obtain ⟨z0, z1, z2⟩ := cells3 hA.2.2.1
  have z3 : ∀ j, Y.frozen? ⟨w.heap.size, j, none⟩ = false := fun j => by simp [World.frozen?, hA.2.2.1]
  have z30 := z3 0
  have z31 := z3 1
  have z32 := z3 2
  have n4 : w.heap.size ≠ 4 := by omega
  have n4' : 4 ≠ w.heap.size := by omega
  clear hown hsh hkey hh HL h hA z3
  go_enter Tryd.func23, Tryd.ntmps23
  go_wp2
  rw [← hY]
  clear hl hY
  go_region
  go_wp2
  refine bodyPost_ret (v := .tuple #[.agg #[.string ⟨#[]⟩, .string ⟨#[]⟩, .int .i64 0], .iface 124 (.pointer (some A.none))]) (by simp [results, Tryd.results23, go_sem, *]) rfl ⟨rfl, ?_⟩
  refine Below.drew ?_
  iterate 3 (refine Below.setCell ?_ (by dsimp only; omega) _)
  exact HBY.out

end Go.Proofs.YthhjomaccbpnbaaDoor
namespace Go.Proofs
open Go.Shelf
def Tryd.laysSort_ren : Go.Shelf.Ren := ⟨fun | 6 => 60 | 15 => 66 | 14 => 65 | 28 => 76 | 29 => 77 | 20 => 68 | 21 => 69 | 22 => 70 | 23 => 71 | 24 => 72 | 25 => 73 | 26 => 74 | 27 => 75 | 46 => 78 | 47 => 79 | 48 => 80 | 49 => 81 | 50 => 82 | 57 => 83 | n => n, fun | 22 => 24 | 24 => 51 | 25 => 87 | 3 => 3 | 39 => 78 | 0 => 0 | 53 => 112 | 55 => 114 | 4 => 4 | 46 => 106 | 45 => 105 | 50 => 61 | 5 => 5 | 9 => 9 | 66 => 115 | 70 => 119 | 76 => 121 | 77 => 122 | n => n, fun | n => n⟩
theorem Tryd.laysSort : Go.Proofs.SlLaysF0.n6 Tryd.prog Tryd.laysSort_ren := {
  mixed := by kernel_rfl
  f6 := ⟨Tryd.f60.name, by decide, Tryd.func60.trans (congrArg some (by kernel_rfl))⟩
  f14 := ⟨Tryd.f65.name, by decide, Tryd.func65.trans (congrArg some (by kernel_rfl))⟩
  f15 := Tryd.func66.trans (congrArg some (by kernel_rfl))
  f20 := ⟨Tryd.f68.name, by decide, Tryd.func68.trans (congrArg some (by kernel_rfl))⟩
  f21 := ⟨Tryd.f69.name, by decide, Tryd.func69.trans (congrArg some (by kernel_rfl))⟩
  f22 := ⟨Tryd.f70.name, by decide, Tryd.func70.trans (congrArg some (by kernel_rfl))⟩
  f23 := ⟨Tryd.f71.name, by decide, Tryd.func71.trans (congrArg some (by kernel_rfl))⟩
  f24 := ⟨Tryd.f72.name, by decide, Tryd.func72.trans (congrArg some (by kernel_rfl))⟩
  f25 := ⟨Tryd.f73.name, by decide, Tryd.func73.trans (congrArg some (by kernel_rfl))⟩
  f26 := ⟨Tryd.f74.name, by decide, Tryd.func74.trans (congrArg some (by kernel_rfl))⟩
  f27 := ⟨Tryd.f75.name, by decide, Tryd.func75.trans (congrArg some (by kernel_rfl))⟩
  f28 := Tryd.func76.trans (congrArg some (by kernel_rfl))
  f29 := Tryd.func77.trans (congrArg some (by kernel_rfl))
  f46 := ⟨Tryd.f78.name, by decide, Tryd.func78.trans (congrArg some (by kernel_rfl))⟩
  f47 := Tryd.func79.trans (congrArg some (by kernel_rfl))
  f48 := Tryd.func80.trans (congrArg some (by kernel_rfl))
  f49 := ⟨Tryd.f81.name, by decide, Tryd.func81.trans (congrArg some (by kernel_rfl))⟩
  f50 := ⟨Tryd.f82.name, by decide, Tryd.func82.trans (congrArg some (by kernel_rfl))⟩
  f57 := ⟨Tryd.f83.name, by decide, Tryd.func83.trans (congrArg some (by kernel_rfl))⟩
  t0 := Tryd.underlying0
  a0 := Tryd.isAgg0
  z0 := Tryd.sizeOf0
  v0 := Tryd.zeroValue0
  t3 := Tryd.underlying3
  a3 := Tryd.isAgg3
  z3 := Tryd.sizeOf3
  v3 := Tryd.zeroValue3
  t4 := Tryd.underlying4
  a4 := Tryd.isAgg4
  z4 := Tryd.sizeOf4
  v4 := Tryd.zeroValue4
  t5 := Tryd.underlying5
  a5 := Tryd.isAgg5
  z5 := Tryd.sizeOf5
  v5 := Tryd.zeroValue5
  t9 := Tryd.underlying9
  a9 := Tryd.isAgg9
  z9 := Tryd.sizeOf9
  v9 := Tryd.zeroValue9
  t22 := Tryd.underlying24
  a22 := Tryd.isAgg24
  z22 := Tryd.sizeOf24
  v22 := Tryd.zeroValue24
  t25 := Tryd.underlying87
  a25 := Tryd.isAgg87
  z25 := Tryd.sizeOf87
  v25 := Tryd.zeroValue87
  t39 := Tryd.underlying78
  a39 := Tryd.isAgg78
  z39 := Tryd.sizeOf78
  v39 := Tryd.zeroValue78
  t45 := Tryd.underlying105
  a45 := Tryd.isAgg105
  z45 := Tryd.sizeOf105
  v45 := Tryd.zeroValue105
  t46 := Tryd.underlying106
  a46 := Tryd.isAgg106
  z46 := Tryd.sizeOf106
  v46 := Tryd.zeroValue106
  t50 := Tryd.underlying61
  a50 := Tryd.isAgg61
  z50 := Tryd.sizeOf61
  v50 := Tryd.zeroValue61
  t53 := Tryd.underlying112
  a53 := Tryd.isAgg112
  z53 := Tryd.sizeOf112
  v53 := Tryd.zeroValue112
  t55 := Tryd.underlying114
  a55 := Tryd.isAgg114
  z55 := Tryd.sizeOf114
  v55 := Tryd.zeroValue114
  t66 := Tryd.underlying115
  a66 := Tryd.isAgg115
  z66 := Tryd.sizeOf115
  v66 := Tryd.zeroValue115
  t70 := Tryd.underlying119
  a70 := Tryd.isAgg119
  z70 := Tryd.sizeOf119
  v70 := Tryd.zeroValue119
  t76 := Tryd.underlying121
  a76 := Tryd.isAgg121
  z76 := Tryd.sizeOf121
  v76 := Tryd.zeroValue121
  t77 := Tryd.underlying122
  a77 := Tryd.isAgg122
  z77 := Tryd.sizeOf122
  v77 := Tryd.zeroValue122 }
def Tryd.laysClone_ren : Go.Shelf.Ren := ⟨fun | 41 => 57 | n => n, fun | 22 => 24 | 23 => 51 | 4 => 4 | n => n, fun | n => n⟩
theorem Tryd.laysClone : Go.Proofs.SlLaysE0.n41 Tryd.prog Tryd.laysClone_ren := {
  mixed := by kernel_rfl
  f41 := ⟨Tryd.f57.name, by decide, Tryd.func57.trans (congrArg some (by kernel_rfl))⟩
  t4 := Tryd.underlying4
  a4 := Tryd.isAgg4
  z4 := Tryd.sizeOf4
  v4 := Tryd.zeroValue4
  t22 := Tryd.underlying24
  a22 := Tryd.isAgg24
  z22 := Tryd.sizeOf24
  v22 := Tryd.zeroValue24 }
end Go.Proofs
