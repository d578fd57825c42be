/-
  spec.DiskOk: is a disk right? spec.l3Copy and spec.l3Begin, at a slice that may be nil. What a step answers; files of other names (for seats without impl's steps). Lists of files: one put in the place of another, one gone, and their order.
-/
import Derived.Test.YthnealhaleccpaaGreatDoorMDiskOkGood
import Derived.Test.YthnealhaleccpaaGreatDoorG00
import Derived.Laws.AppendOwnNone
import Derived.Maps.Ext
namespace Go.Proofs.YthnealhaleccpaaGreatDoor
open Go.RowKit
open Plain

set_option maxRecDepth 100000 in
set_option maxHeartbeats 4000000 in
theorem specOk_any (w : World) (a : Option Addr) (n cap : Nat) (fs : List FileV) (hr : FRow w 0 a n fs) (hn : n ≤ 1099511627776) (hz : szFs fs ≤ 1099511627776) (c u : Int) (d : Bool) :
    Calls Tryz.prog 41 #[.agg #[.slice a n cap, .int .i64 c, .int .i64 u, .bool d]] w fun e w' => e = .returned (.bool (diskOk fs c u)) ∧ Below w.heap.size w w' := by
  have hbx := box4 w (.slice a n cap) (.int .i64 c) (.int .i64 u) (.bool d) 39
  have HR := hide (hr.later hbx.1 (Nat.le_refl _))
  have HB := hide hbx.1
  have hlen := hr.len
  have hus := usedF_le_sz fs
  have hcell := cells4 hbx.2
  obtain ⟨W, hW⟩ : ∃ W, W = w.alloc (.cells #[.slice a n cap, .int .i64 c, .int .i64 u, .bool d] 39) := ⟨_, rfl⟩
  rw [← hW] at HR HB hcell
  have HWS : Hid (W.heap.size = w.heap.size + 1) := hide (by rw [hW]; simp)
  have hlater : ∀ w', Below W.heap.size W w' → w'.cell? ⟨w.heap.size, 0, none⟩ = some (.slice a n cap) ∧ w'.cell? ⟨w.heap.size, 1, none⟩ = some (.int .i64 c) ∧ w'.cell? ⟨w.heap.size, 2, none⟩ = some (.int .i64 u) ∧ w'.cell? ⟨w.heap.size, 3, none⟩ = some (.bool d) ∧ Hid (Below W.heap.size W w') := fun w' h =>
    ⟨by rw [h.cell (by have := HWS.out; show w.heap.size < _; omega)]; exact hcell.1, by rw [h.cell (by have := HWS.out; show w.heap.size < _; omega)]; exact hcell.2.1, by rw [h.cell (by have := HWS.out; show w.heap.size < _; omega)]; exact hcell.2.2.1, by rw [h.cell (by have := HWS.out; show w.heap.size < _; omega)]; exact hcell.2.2.2.1, hide h⟩
  have HL := hide hlater
  have HUS : Hid (∀ w', Hid (Below W.heap.size W w') → Calls Tryz.prog 61 #[.agg #[.slice a n cap, .int .i64 c, .int .i64 u, .bool d]] w' fun e w'' => e = .returned (.int .i64 (usedF fs)) ∧ Below W.heap.size W w'') := hide (fun w' h =>
    (specUsed_any w' a n cap fs (HR.out.later h.out (Nat.le_refl _)) hn (by omega) c u d).mono (fun e w'' ⟨h1, h2⟩ => ⟨h1, h.out.trans (h2.mono h.out.size)⟩))
  have S0 := hlater W.drew (Below.refl _ _).drew
  clear hbx hcell hlater
  by_cases q1 : n ≤ 130
  · have t1 : decide ((130 : Int) < (n : Int)) = false := by simp; omega
    by_cases q2 : inB 0 c 100000 = true
    · by_cases q3 : inB (-1) u 100000 = true
      · by_cases q4 : (usedF fs : Int) ≤ c
        · exact specOk_good w a n cap fs hr hn hz c u d q1 q2 q3 q4
        · have t4 : decide (c < (usedF fs : Int)) = true := by simp; omega
          have HV : Hid (diskOk fs c u = false) := hide (by simp [diskOk, headOk, q4])
          go_enter Tryz.func41, Tryz.ntmps41
          go_wp2_with fail
          rw [← hW]
          clear hW
          first
            | (go_region_held3 (fun w' => w'.cell? ⟨w.heap.size, 0, none⟩ = some (.slice a n cap) ∧ w'.cell? ⟨w.heap.size, 1, none⟩ = some (.int .i64 c) ∧ w'.cell? ⟨w.heap.size, 2, none⟩ = some (.int .i64 u) ∧ w'.cell? ⟨w.heap.size, 3, none⟩ = some (.bool d) ∧ Hid (Below W.heap.size W w')) (assumption) (first
              | (go_at_call 29; refine (in_anyB _ _ _ _).mono ?_; rintro e w4 ⟨rfl, rfl⟩)
              | (go_at_call 61; refine (HUS.out _ (by simp only [*])).mono ?_; rintro e w4 ⟨rfl, hb4⟩; have hS4 := HL.out w4 hb4)))
            | fail
          have HB4 := hide (HB.out.trans (hb4.mono HB.out.size))
          clear S0 HL HUS HR hb4 hS4
          go_wp2
          go_ret
          exact ⟨by rw [HV.out]; rfl, HB4.out⟩
      · have t3 : inB (-1) u 100000 = false := by simpa using q3
        have HV : Hid (diskOk fs c u = false) := hide (by simp [diskOk, headOk, t3])
        go_enter Tryz.func41, Tryz.ntmps41
        go_wp2_with fail
        rw [← hW]
        clear hW
        clear S0
        obtain ⟨z0, z1, z2, z3, -⟩ := HL.out W (Below.refl _ _)
        go_quiet ((go_at_call 29; exact Calls.quiet_of_same ((in_anyB _ _ _ _).mono (fun _ _ ⟨x, y⟩ => ⟨x, y.symm⟩))))
        clear HL HUS HR
        go_wp2
        go_ret
        exact ⟨by rw [HV.out]; rfl, ⟨HB.out.os, HB.out.tape, HB.out.output, HB.out.size, HB.out.block⟩⟩
    · have t2 : inB 0 c 100000 = false := by simpa using q2
      have HV : Hid (diskOk fs c u = false) := hide (by simp [diskOk, headOk, t2])
      go_enter Tryz.func41, Tryz.ntmps41
      go_wp2_with fail
      rw [← hW]
      clear hW
      clear S0
      obtain ⟨z0, z1, z2, z3, -⟩ := HL.out W (Below.refl _ _)
      go_quiet ((go_at_call 29; exact Calls.quiet_of_same ((in_anyB _ _ _ _).mono (fun _ _ ⟨x, y⟩ => ⟨x, y.symm⟩))))
      clear HL HUS HR
      go_wp2
      go_ret
      exact ⟨by rw [HV.out]; rfl, ⟨HB.out.os, HB.out.tape, HB.out.output, HB.out.size, HB.out.block⟩⟩
  · have t1 : decide ((130 : Int) < (n : Int)) = true := by simp; omega
    have HV : Hid (diskOk fs c u = false) := hide (by simp [diskOk, headOk, hlen, q1])
    go_enter Tryz.func41, Tryz.ntmps41
    go_wp2_with fail
    rw [← hW]
    clear hW
    clear S0
    obtain ⟨z0, z1, z2, z3, -⟩ := HL.out W (Below.refl _ _)
    go_quiet ((go_at_call 29; exact Calls.quiet_of_same ((in_anyB _ _ _ _).mono (fun _ _ ⟨x, y⟩ => ⟨x, y.symm⟩))))
    clear HL HUS HR
    go_wp2
    go_ret
    exact ⟨by rw [HV.out]; rfl, ⟨HB.out.os, HB.out.tape, HB.out.output, HB.out.size, HB.out.block⟩⟩

end Go.Proofs.YthnealhaleccpaaGreatDoor
namespace Go.Proofs.YthnealhaleccpaaGreatDoor
open Go.RowKit
open Plain

set_option maxRecDepth 100000 in
set_option maxHeartbeats 1000000 in
theorem specCopy_some (w : World) (ad : Addr) (n cap : Nat) (fs : List FileV) (hr : FRow w 0 (some ad) n fs) (hn : n ≤ 1048576) (c u : Int) (d : Bool) :
    Calls Tryz.prog 115 #[.agg #[.slice (some ad) n cap, .int .i64 c, .int .i64 u, .bool d]] w fun e w' => (∃ a' cap', e = .returned (.agg #[.slice a' n cap', .int .i64 c, .int .i64 u, .bool d]) ∧ FOwn w' w.heap.size (.slice a' n cap') fs) ∧ Below w.heap.size w w' := by
  have hfn := hr.len
  obtain ⟨W, hW⟩ : ∃ W, W = ((w.alloc (.cells #[.slice (some ad) n cap, .int .i64 c, .int .i64 u, .bool d] 39)).alloc (.cells #[.slice none 0 0, .int .i64 0, .int .i64 0, .bool false] 39)).alloc (.cells #[] 73) := ⟨_, rfl⟩
  have hA := alloc3 w (.cells #[.slice (some ad) n cap, .int .i64 c, .int .i64 u, .bool d] 39) (.cells #[.slice none 0 0, .int .i64 0, .int .i64 0, .bool false] 39) (.cells #[] 73)
  rw [← hW] at hA
  have HO : Hid (FOwn W (w.heap.size + 2) (.slice (some ⟨w.heap.size + 1 + 1, 0, none⟩) 0 0) []) := hide (by
    refine ⟨rfl, .inr ⟨w.heap.size + 1 + 1, 0, #[], rfl, Nat.le_refl _, hA.2.2.2.2, Nat.le_refl _, by unfold maxLen; omega, rfl, rfl⟩⟩)
  have HS := hide hA.1
  have HB0 := hide hA.2.1
  have HC0 := hide hA.2.2.1
  have HC1 := hide hA.2.2.2.1
  clear hA
  have HR := hide (hr.later HB0.out (Nat.le_refl _))
  clear hr
  go_enter Tryz.func115, Tryz.ntmps115
  go_wp2_with (at_builtin; (try rw [← hW]); clear hW; refine wpList_app_files rfl (.tmp 3) (.tmp 5) rfl HO.out (by have := HS.out; omega) HR.out (by simp; omega) rfl rfl ?_; intro a' n' cap' w2 hn' hown2 hg2; rw [List.length_nil, Nat.zero_add] at hn'; subst hn'; obtain ⟨a0, a1, a2, a3, f0, -, -, -⟩ := cells4 ((hg2.block _ (by have := HS.out; omega) (by simp [Value.ownBlock]; omega)).trans HC0.out); obtain ⟨b0, b1, b2, b3, k0, k1, k2, k3⟩ := cells4 ((hg2.block _ (by have := HS.out; omega) (by simp [Value.ownBlock]; try omega)).trans HC1.out); have HO2 := hide hown2; have HG2 := hide hg2; clear hown2 hg2)
  have HB2 := hide (HB0.out.grown HG2.out HB0.out.size (by intro j h; simp [Value.ownBlock] at h; omega))
  refine bodyPost_ret (v := .agg #[.slice a' n' cap', .int .i64 c, .int .i64 u, .bool d]) (by simp [results, Tryz.results115, go_sem, *]) rfl ⟨⟨a', cap', rfl, ?_⟩, ?_⟩
  · refine FOwn.mono ?_ (Nat.le_add_right _ 2)
    iterate 5 (refine FOwn.setCell ?_ _ _ (by dsimp only; omega))
    exact HO2.out
  · iterate 5 (refine Below.setCell ?_ (by dsimp only; omega) _)
    exact HB2.out

set_option maxRecDepth 100000 in
set_option maxHeartbeats 1000000 in
theorem specCopy_nil (w : World) (c u : Int) (d : Bool) :
    Calls Tryz.prog 115 #[.agg #[.slice none 0 0, .int .i64 c, .int .i64 u, .bool d]] w fun e w' => (∃ a' cap', e = .returned (.agg #[.slice a' 0 cap', .int .i64 c, .int .i64 u, .bool d]) ∧ FOwn w' w.heap.size (.slice a' 0 cap') []) ∧ Below w.heap.size w w' := by
  obtain ⟨W, hW⟩ : ∃ W, W = ((w.alloc (.cells #[.slice none 0 0, .int .i64 c, .int .i64 u, .bool d] 39)).alloc (.cells #[.slice none 0 0, .int .i64 0, .int .i64 0, .bool false] 39)).alloc (.cells #[] 73) := ⟨_, rfl⟩
  have hA := alloc3 w (.cells #[.slice none 0 0, .int .i64 c, .int .i64 u, .bool d] 39) (.cells #[.slice none 0 0, .int .i64 0, .int .i64 0, .bool false] 39) (.cells #[] 73)
  rw [← hW] at hA
  have HO : Hid (FOwn W (w.heap.size + 2) (.slice (some ⟨w.heap.size + 1 + 1, 0, none⟩) 0 0) []) := hide (by
    refine ⟨rfl, .inr ⟨w.heap.size + 1 + 1, 0, #[], rfl, Nat.le_refl _, hA.2.2.2.2, Nat.le_refl _, by unfold maxLen; omega, rfl, rfl⟩⟩)
  have HS := hide hA.1
  have HB0 := hide hA.2.1
  have HC0 := hide hA.2.2.1
  have HC1 := hide hA.2.2.2.1
  clear hA
  obtain ⟨i0, hi, hz0, hz1, hz2⟩ := info_parts Tryz.infoF
  go_enter Tryz.func115, Tryz.ntmps115
  go_wp2_with (at_builtin; (try rw [← hW]); clear hW; refine wpList_append_own_none rfl (.tmp 3) (.tmp 5) 37 rfl (w.heap.size + 2) 73 i0 3 Tryz.underlying37 hi _ 0 [] rfl HO.out rfl ?_; obtain ⟨a0, a1, a2, a3, f0, -, -, -⟩ := cells4 HC0.out; obtain ⟨b0, b1, b2, b3, k0, k1, k2, k3⟩ := cells4 HC1.out)
  refine bodyPost_ret (v := .agg #[.slice (some ⟨w.heap.size + 1 + 1, 0, none⟩) 0 0, .int .i64 c, .int .i64 u, .bool d]) (by simp [results, Tryz.results115, go_sem, *]) rfl ⟨⟨_, _, rfl, ?_⟩, ?_⟩
  · refine FOwn.mono ?_ (Nat.le_add_right _ 2)
    (repeat (first | with_reducible (refine FOwn.setCell ?_ _ _ (by dsimp only; omega)) | with_reducible (exact HO.out)))
  · (repeat (first | with_reducible (refine Below.setCell ?_ (by dsimp only; omega) _) | with_reducible (exact HB0.out)))

theorem FRow.nil {w : World} {base n : Nat} {fs : List FileV} (h : FRow w base none n fs) : fs = [] ∧ n = 0 := by
  have hl := h.len
  cases fs with
  | nil => exact ⟨rfl, hl.symm⟩
  | cons f r =>
    obtain ⟨b, off, e, _⟩ := h.cells 0 (by simp)
    cases e
theorem specCopy_any (w : World) (a : Option Addr) (n cap : Nat) (fs : List FileV) (hr : FRow w 0 a n fs) (hc0 : a = none → cap = 0) (hn : n ≤ 1048576) (c u : Int) (d : Bool) :
    Calls Tryz.prog 115 #[.agg #[.slice a n cap, .int .i64 c, .int .i64 u, .bool d]] w fun e w' => (∃ a' cap', e = .returned (.agg #[.slice a' n cap', .int .i64 c, .int .i64 u, .bool d]) ∧ FOwn w' w.heap.size (.slice a' n cap') fs) ∧ Below w.heap.size w w' := by
  cases a with
  | none =>
    obtain ⟨rfl, rfl⟩ := hr.nil
    obtain rfl := hc0 rfl
    exact specCopy_nil w c u d
  | some ad => exact specCopy_some w ad n cap fs hr hn c u d

end Go.Proofs.YthnealhaleccpaaGreatDoor
namespace Go.Proofs.YthnealhaleccpaaGreatDoor
open Go.RowKit
open Plain

def begC (fs : List FileV) (c u : Int) (d : Bool) : Int := if diskOk fs c u = true then (if d = true ∨ u = 0 then 1 else 0) else 5
def begD (fs : List FileV) (c u : Int) (d : Bool) : Bool := if diskOk fs c u = true then (if u = 0 then true else d) else d
def begU (fs : List FileV) (c u : Int) (d : Bool) : Int := if diskOk fs c u = true ∧ d = false ∧ 0 < u then u - 1 else u

set_option maxRecDepth 100000 in
set_option maxHeartbeats 2000000 in
theorem specBegin_any (w : World) (a : Option Addr) (n cap : Nat) (fs : List FileV) (hr : FRow w 0 a n fs) (hc0 : a = none → cap = 0) (hn : n ≤ 1048576) (hz : szFs fs ≤ 1048576) (c u : Int) (d : Bool) (hu : -9223372036854775808 ≤ u) (hu2 : u ≤ 9223372036854775807) :
    Calls Tryz.prog 96 #[.agg #[.slice a n cap, .int .i64 c, .int .i64 u, .bool d]] w fun e w' => (∃ a' cap', e = .returned (.tuple #[.agg #[.slice a' n cap', .int .i64 c, .int .i64 (begU fs c u d), .bool (begD fs c u d)], .int .i64 (begC fs c u d)]) ∧ FOwn w' w.heap.size (.slice a' n cap') fs) ∧ Below w.heap.size w w' := by
  obtain ⟨W, hW⟩ : ∃ W, W = (w.alloc (.cells #[.slice a n cap, .int .i64 c, .int .i64 u, .bool d] 39)).alloc (.cells #[.slice none 0 0, .int .i64 0, .int .i64 0, .bool false] 39) := ⟨_, rfl⟩
  have hA := alloc2 w (.cells #[.slice a n cap, .int .i64 c, .int .i64 u, .bool d] 39) (.cells #[.slice none 0 0, .int .i64 0, .int .i64 0, .bool false] 39)
  rw [← hW] at hA
  have HS := hide hA.1
  have HB0 := hide hA.2.1
  have HC0 := hide hA.2.2.1
  have HC1 := hide hA.2.2.2
  clear hA
  have HR := hide (hr.later HB0.out (Nat.le_refl _))
  clear hr
  go_enter Tryz.func96, Tryz.ntmps96
  go_wp2_with fail
  rw [← hW]
  clear hW
  refine (specCopy_any W a n cap fs HR.out hc0 hn c u d).mono ?_
  rintro e w2 ⟨⟨a', cap', rfl, ho2⟩, hb2⟩
  obtain ⟨X, hX⟩ : ∃ X, X = w2.alloc (.cells #[.slice a' n cap', .int .i64 c, .int .i64 u, .bool d] 39) := ⟨_, rfl⟩
  have hsz2 : w.heap.size + 2 ≤ w2.heap.size := by have := HS.out; have := hb2.size; omega
  have HBX : Hid (Below w2.heap.size w2 X) := hide (by rw [hX]; exact (Below.refl _ _).alloc (Nat.le_refl _) _)
  have HXS : Hid (X.heap.size = w2.heap.size + 1) := hide (by rw [hX]; simp)
  have HCX : Hid (X.heap[w2.heap.size]? = some (.cells #[.slice a' n cap', .int .i64 c, .int .i64 u, .bool d] 39 (0, 0))) := hide (by rw [hX]; exact heap_alloc_new w2 _)
  have HD0 : Hid (X.heap[w.heap.size]? = some (.cells #[.slice a n cap, .int .i64 c, .int .i64 u, .bool d] 39 (0, 0))) := hide (((HBX.out.block _ (by omega)).trans (hb2.block _ (by have := HS.out; omega))).trans HC0.out)
  have HD1 : Hid (X.heap[w.heap.size + 1]? = some (.cells #[.slice none 0 0, .int .i64 0, .int .i64 0, .bool false] 39 (0, 0))) := hide (((HBX.out.block _ (by omega)).trans (hb2.block _ (by have := HS.out; omega))).trans HC1.out)
  have HOX := hide (ho2.later HBX.out (Nat.le_refl _))
  have HBK : Hid (∀ g, (Value.slice a' n cap').ownBlock = some g → w.heap.size + 2 ≤ g ∧ g < w2.heap.size) := hide (fun g hg => by have h := ho2.blk g hg; have := HS.out; omega)
  have HBW := hide (hb2.trans (HBX.out.mono hb2.size))
  have HRX := hide (HR.out.later HBW.out (Nat.le_refl _))
  have HB3 := hide (HB0.out.trans (HBW.out.mono HB0.out.size))
  have HSS := hide HS.out
  clear hb2 ho2 HC0 HC1 HR HB0 HBX HBW
  have hx0 := cells4 HD0.out
  rw [hX] at hx0
  obtain ⟨y0, y1, y2, y3, -, -, -, -⟩ := hx0
  go_wp2_with fail
  clear y0 y1 y2 y3
  rw [← hX]
  clear hX
  refine (specOk_any X a n cap fs HRX.out (by omega) (by omega) c u d).mono ?_
  rintro e w4 ⟨rfl, hb4⟩
  obtain ⟨x, hx⟩ : ∃ x, w2.heap.size = x := ⟨_, rfl⟩
  rw [hx] at HCX HXS hsz2 HBK
  rw [hx]
  obtain ⟨a0, a1, a2, a3, -, -, -, -⟩ := cells4 ((hb4.block _ (by have := HXS.out; omega)).trans HD0.out)
  obtain ⟨b0, b1, b2, b3, k0, k1, k2, k3⟩ := cells4 ((hb4.block _ (by have := HXS.out; omega)).trans HD1.out)
  obtain ⟨c0, c1, c2, c3, l0, l1, l2, l3⟩ := cells4 ((hb4.block _ (by have := HXS.out; omega)).trans HCX.out)
  have HO4 : Hid (FOwn w4 w.heap.size (.slice a' n cap') fs) := hide ((HOX.out.later hb4 (Nat.le_refl _)).mono (by have := HSS.out; omega))
  have HB4 := hide (HB3.out.trans (hb4.mono HB3.out.size))
  clear hb4 HD0 HD1 HCX HXS HOX HB3 HRX hx
  by_cases q1 : diskOk fs c u = true
  · rw [q1]
    cases d
    · by_cases q2 : u = 0
      · subst q2
        have HV : Hid (begU fs c 0 false = 0 ∧ begD fs c 0 false = true ∧ begC fs c 0 false = 1) := hide (by simp [begU, begD, begC, q1])
        clear q1
        go_wp2
        refine bodyPost_ret (v := .tuple #[.agg #[.slice a' n cap', .int .i64 c, .int .i64 0, .bool true], .int .i64 1]) (by simp [results, Tryz.results96, go_sem, *]) rfl ⟨⟨a', cap', by rw [HV.out.1, HV.out.2.1, HV.out.2.2], ?_⟩, ?_⟩
        · iterate 5 (refine FOwn.setNe ?_ _ _ (by intro q; have := HBK.out _ q; dsimp only at this; omega))
          exact HO4.out
        · iterate 5 (refine Below.setCell ?_ (by dsimp only; omega) _)
          exact HB4.out
      · have t2 : (u == 0) = false := by simpa using q2
        by_cases q3 : 0 < u
        · have HV : Hid (begU fs c u false = u - 1 ∧ begD fs c u false = false ∧ begC fs c u false = 0) := hide (by simp [begU, begD, begC, q1, q2, q3])
          clear q1
          go_wp2
          refine bodyPost_ret (v := .tuple #[.agg #[.slice a' n cap', .int .i64 c, .int .i64 (u - 1), .bool false], .int .i64 0]) (by simp [results, Tryz.results96, go_sem, *]) rfl ⟨⟨a', cap', by rw [HV.out.1, HV.out.2.1, HV.out.2.2], ?_⟩, ?_⟩
          · iterate 5 (refine FOwn.setNe ?_ _ _ (by intro q; have := HBK.out _ q; dsimp only at this; omega))
            exact HO4.out
          · iterate 5 (refine Below.setCell ?_ (by dsimp only; omega) _)
            exact HB4.out
        · have HV : Hid (begU fs c u false = u ∧ begD fs c u false = false ∧ begC fs c u false = 0) := hide (by simp [begU, begD, begC, q1, q2, q3])
          have t3 : decide (0 < u) = false := by simpa using q3
          clear q1
          go_wp2
          refine bodyPost_ret (v := .tuple #[.agg #[.slice a' n cap', .int .i64 c, .int .i64 u, .bool false], .int .i64 0]) (by simp [results, Tryz.results96, go_sem, *]) rfl ⟨⟨a', cap', by rw [HV.out.1, HV.out.2.1, HV.out.2.2], ?_⟩, ?_⟩
          · iterate 4 (refine FOwn.setNe ?_ _ _ (by intro q; have := HBK.out _ q; dsimp only at this; omega))
            exact HO4.out
          · iterate 4 (refine Below.setCell ?_ (by dsimp only; omega) _)
            exact HB4.out
    · have HV : Hid (begU fs c u true = u ∧ begD fs c u true = true ∧ begC fs c u true = 1) := hide (by simp [begU, begD, begC, q1])
      clear q1
      go_wp2
      refine bodyPost_ret (v := .tuple #[.agg #[.slice a' n cap', .int .i64 c, .int .i64 u, .bool true], .int .i64 1]) (by simp [results, Tryz.results96, go_sem, *]) rfl ⟨⟨a', cap', by rw [HV.out.1, HV.out.2.1, HV.out.2.2], ?_⟩, ?_⟩
      · iterate 5 (refine FOwn.setNe ?_ _ _ (by intro q; have := HBK.out _ q; dsimp only at this; omega))
        exact HO4.out
      · iterate 5 (refine Below.setCell ?_ (by dsimp only; omega) _)
        exact HB4.out
  · have q1' : diskOk fs c u = false := by simpa using q1
    have HV : Hid (begU fs c u d = u ∧ begD fs c u d = d ∧ begC fs c u d = 5) := hide (by simp [begU, begD, begC, q1'])
    rw [q1']
    clear q1 q1'
    go_wp2
    refine bodyPost_ret (v := .tuple #[.agg #[.slice a' n cap', .int .i64 c, .int .i64 u, .bool d], .int .i64 5]) (by simp [results, Tryz.results96, go_sem, *]) rfl ⟨⟨a', cap', by rw [HV.out.1, HV.out.2.1, HV.out.2.2], ?_⟩, ?_⟩
    · iterate 4 (refine FOwn.setNe ?_ _ _ (by intro q; have := HBK.out _ q; dsimp only at this; omega))
      exact HO4.out
    · iterate 4 (refine Below.setCell ?_ (by dsimp only; omega) _)
      exact HB4.out

end Go.Proofs.YthnealhaleccpaaGreatDoor
namespace Go.Proofs.YthnealhaleccpaaGreatDoor
open Go.RowKit Go.Maps
open Plain

theorem blk_lt {w : World} {b : Nat} {o : Obj} (h : w.heap[b]? = some o) : b < w.heap.size := (Array.getElem?_eq_some_iff.1 h).1
/-- The files of another name. -/
def others (S : List FileV) (x : ByteArray) : List FileV := S.filter (fun g => decide (g.name ≠ x))
theorem mem_others {S : List FileV} {x : ByteArray} {g : FileV} : g ∈ others S x ↔ g ∈ S ∧ g.name ≠ x := by simp [others]
theorem apart_eq {S : List FileV} (h : S.Pairwise (fun f g => f.name ≠ g.name)) {f g : FileV} (hf : f ∈ S) (hg : g ∈ S) (e : f.name = g.name) : f = g := by
  induction S with
  | nil => simp at hf
  | cons a r ih =>
    obtain ⟨h1, h2⟩ := List.pairwise_cons.1 h
    rcases List.mem_cons.1 hf with ef | hf'
    · rcases List.mem_cons.1 hg with eg | hg'
      · rw [ef, eg]
      · exact absurd (ef ▸ e) (h1 g hg')
    · rcases List.mem_cons.1 hg with eg | hg'
      · exact absurd (eg ▸ e).symm (h1 f hf')
      · exact ih h2 hf' hg'
theorem others_none {S : List FileV} {x : ByteArray} (h : ∀ g, g ∈ S → g.name ≠ x) : others S x = S := by
  unfold others
  rw [List.filter_eq_self]
  intro g hg
  simpa using h g hg
theorem length_others {S : List FileV} (h : S.Pairwise (fun f g => f.name ≠ g.name)) {f : FileV} (hf : f ∈ S) : (others S f.name).length + 1 = S.length := by
  induction S with
  | nil => simp at hf
  | cons a r ih =>
    obtain ⟨h1, h2⟩ := List.pairwise_cons.1 h
    rcases List.mem_cons.1 hf with rfl | hf
    · have : others (f :: r) f.name = r := by
        have e := others_none (S := r) (x := f.name) (fun g hg e => h1 g hg e.symm)
        unfold others at e ⊢
        rw [List.filter_cons_of_neg (by simp), e]
      rw [this]
      rfl
    · have hne : a.name ≠ f.name := h1 f hf
      have : others (a :: r) f.name = a :: others r f.name := by
        unfold others
        rw [List.filter_cons_of_pos (by simpa using hne)]
      rw [this, List.length_cons, List.length_cons, ih h2 hf]
theorem Rising.apart {S : List FileV} (h : Rising S) : S.Pairwise (fun f g => f.name ≠ g.name) := h.imp (fun {a b} hab e => by rw [e] at hab; exact List.lt_irrefl _ hab)
theorem heap_setCell_cells {X : World} {x j : Nat} {cs : Array Value} {t : TypeId} (h : X.heap[x]? = some (.cells cs t (0, 0))) (v : Value) : (X.setCell ⟨x, j, none⟩ v).heap[x]? = some (.cells (cs.setIfInBounds j v) t (0, 0)) := by
  simp [World.setCell, Array.getElem?_modify, h]
theorem FOwn.drewO {w : World} {base : Nat} {v : Value} {fs : List FileV} (h : FOwn w base v fs) : FOwn w.drew base v fs := h

/-- What a step answers: its files and its code. -/
def stepF (fs : List FileV) (c u : Int) (d : Bool) (code : Int) (R : List FileV) : List FileV × Int := if begC fs c u d = 0 then (if code = 0 then R else fs, code) else (fs, begC fs c u d)

end Go.Proofs.YthnealhaleccpaaGreatDoor
namespace Go.Proofs.YthnealhaleccpaaGreatDoor
open Go.RowKit Go.Maps
open Plain

theorem rising_map (fs : List FileV) : Rising fs ↔ (fs.map (fun f => f.name.data.toList)).Pairwise (· < ·) := by
  unfold Rising
  rw [List.pairwise_map]
theorem rising_set {fs : List FileV} (h : Rising fs) (k : Nat) (hk : k < fs.length) (g : FileV) (hg : g.name = (fs[k]).name) : Rising (fs.set k g) := by
  rw [rising_map] at h ⊢
  have e : (fs.set k g).map (fun f => f.name.data.toList) = fs.map (fun f => f.name.data.toList) := by
    rw [List.map_set]
    apply set_get_self
    rw [List.getElem?_map, List.getElem?_eq_getElem hk, hg]
    rfl
  rw [e]
  exact h
theorem rising_sub {fs gs : List FileV} (h : Rising fs) (hs : gs.Sublist fs) : Rising gs := List.Pairwise.sublist hs h
theorem others_erase {fs : List FileV} (h : fs.Pairwise (fun f g => f.name ≠ g.name)) : ∀ k, (hk : k < fs.length) → others fs (fs[k]).name = fs.eraseIdx k := by
  induction fs with
  | nil => intro k hk; simp at hk
  | cons a r ih =>
    intro k hk
    obtain ⟨h1, h2⟩ := List.pairwise_cons.1 h
    cases k with
    | zero =>
      have e := others_none (S := r) (x := a.name) (fun g hg e => h1 g hg e.symm)
      unfold others at e ⊢
      rw [List.getElem_cons_zero, List.filter_cons_of_neg (by simp), e, List.eraseIdx_zero]
      rfl
    | succ k =>
      have hk' : k < r.length := by simpa using hk
      have e := ih h2 k hk'
      have hne : a.name ≠ (r[k]).name := h1 _ (List.getElem_mem hk')
      unfold others at e ⊢
      rw [List.getElem_cons_succ, List.filter_cons_of_pos (by simpa using hne), e, List.eraseIdx_cons_succ]
theorem set_perm (fs : List FileV) (g : FileV) : ∀ k, k < fs.length → (fs.set k g).Perm (g :: fs.eraseIdx k) := by
  induction fs with
  | nil => intro k hk; simp at hk
  | cons a r ih =>
    intro k hk
    cases k with
    | zero => simp
    | succ k =>
      rw [List.set_cons_succ, List.eraseIdx_cons_succ]
      exact ((ih k (by simpa using hk)).cons a).trans (List.Perm.swap _ _ _)
theorem set_perm_others {fs : List FileV} (h : fs.Pairwise (fun f g => f.name ≠ g.name)) (k : Nat) (hk : k < fs.length) (g : FileV) : (fs.set k g).Perm (g :: others fs (fs[k]).name) := by
  rw [others_erase h k hk]
  exact set_perm fs g k hk
end Go.Proofs.YthnealhaleccpaaGreatDoor
