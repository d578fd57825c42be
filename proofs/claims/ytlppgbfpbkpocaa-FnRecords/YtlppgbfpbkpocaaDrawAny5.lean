/-
  spec.l5Any: a record, right or not, drawn.
-/
import Derived.Test.YtlppgbfpbkpocaaDraw5
import Derived.Deep.RegionHeld3
namespace Go.Proofs.Ytlppgbfpbkpocaa
open Go.RowKit
open Plain

def valSize (D : Nat) (wr : World) : Nat := match wr.cell? ⟨D, 3, none⟩ with
  | some (.string v) => 26 - v.size
  | _ => 0

set_option maxRecDepth 100000 in
set_option maxHeartbeats 8000000 in
theorem any5_any (w : World) (B : Nat) (a : Option Addr) (len cap : Nat) (zs : List Int) (hc : CurX w B a len cap zs) :
    Calls Try.prog 23 #[.pointer (some ⟨B, 0, none⟩)] w fun e w' => (∃ r : RecV, r.key.size ≤ 9 ∧ r.val.size ≤ 25 ∧ e = .returned (.agg #[.int .i64 r.kind, .int .i64 r.batch, .string r.key, .string r.val, .int .i64 r.cnt, .int .i64 r.sum])) ∧ CurX w' B a len cap zs ∧ w.grownBy w' (some B) := by
  have hB := hc.lt
  obtain ⟨W0, hW⟩ : ∃ W0, W0 = w.alloc (.cells #[.int .i64 0, .int .i64 0, .string ⟨#[]⟩, .string ⟨#[]⟩, .int .i64 0, .int .i64 0] 25) := ⟨_, rfl⟩
  have hc0 : CurX W0 B a len cap zs := by rw [hW]; exact hc.below ((Below.refl _ _).alloc (Nat.le_refl _) _) hB
  have HC := hide hc0
  have HW := hide hW
  clear hc hc0
  go_enter Try.func23, Try.ntmps23
  go_wp2_with fail
  rw [← hW]
  clear hW
  refine (rec5_any W0 B a len cap zs HC.out).mono ?_
  rintro e w1 ⟨⟨⟨k, b, key, val, c, s⟩, hk, hv, rfl⟩, hc1, hg1⟩
  simp only at hk hv ⊢
  have HM := hide (RMid.start HW.out hB hg1 hc1 k b key val c s)
  obtain ⟨D, hD⟩ : ∃ D, w1.heap.size = D := ⟨_, rfl⟩
  rw [hD] at HM
  have HK : Hid (key.size ≤ 9) := hide (by omega)
  have HL : Hid (val.size ≤ 25) := hide (by omega)
  clear hc1 hg1 HC HW hk hv
  obtain ⟨st, hst⟩ := HM.out.cur
  have HC2 := hide hst
  clear hst
  go_wp2_with fail
  clear hD
  refine (below_any 14 _ B a len cap zs st HC2.out).mono ?_
  rintro e w2 ⟨rfl, hc2, hg2⟩
  have h14 := lV_bd zs 14 st (by omega)
  have HM2 := hide (HM.out.grown hg2 ⟨_, hc2⟩)
  clear hc2 hg2 HM HC2
  generalize lV zs 14 st = x at *
  by_cases k0 : x = 0
  · have t0 : (x == 0) = true := by simpa using k0
    clear k0
    have HM3 := hide (HM2.out.later ((Below.refl _ _).alloc (Nat.le_refl _) (.cells #[.int .i64 0, .int .i64 6, .int .i64 3, .int .i64 1] 3)))
    have hB2 := HM2.out.cur.lt
    have HP := hide (pickInt_any [0, 6, 3, 1] w2.heap.size (by simp) (by simp) (w2.alloc (.cells #[.int .i64 0, .int .i64 6, .int .i64 3, .int .i64 1] 3)) B a len cap zs HM3.out.cur (by omega) (row_ints w2 [0, 6, 3, 1]))
    clear HM2
    go_wp2_with fail
    refine HP.out.mono ?_
    rintro e w4 ⟨⟨z, hz, rfl⟩, hc4, hg4⟩
    have HM4 := hide (HM3.out.grown hg4 hc4)
    clear hz hc4 hg4 HM3 HP hB2
    have f0 := HM4.out.free 0
    have HM5 := hide (HM4.out.setKind z)
    have HD := hide (HM5.out.done (.int .i64 z) (.int .i64 b) (.string key) (.string val) (.int .i64 c) (.int .i64 s))
    obtain ⟨x0, x1, x2, x3, x4, x5⟩ := HM4.out.cells
    have g0 := HM4.out.resFree 0
    have g1 := HM4.out.resFree 1
    have g2 := HM4.out.resFree 2
    have g3 := HM4.out.resFree 3
    have g4 := HM4.out.resFree 4
    have g5 := HM4.out.resFree 5
    obtain ⟨y0, y1, y2, y3, y4, y5⟩ := HM4.out.resCells
    have hlo := HM4.out.lo
    have hne : w.heap.size ≠ D := by omega
    clear HM4 HM5
    go_wp2
    refine bodyPost_ret (v := .agg #[.int .i64 z, .int .i64 b, .string key, .string val, .int .i64 c, .int .i64 s]) (by simp [results, Try.results23, go_sem, *]) rfl ⟨⟨⟨z, b, key, val, c, s⟩, HK.out, HL.out, rfl⟩, HD.out.1, HD.out.2⟩
  by_cases k1 : x = 1
  · have t0 : (x == 0) = false := by simpa using k0
    have t1 : (x == 1) = true := by simpa using k1
    clear k0 k1
    have HM3 := hide (HM2.out.later ((Below.refl _ _).alloc (Nat.le_refl _) (.cells #[.int .i64 0, .int .i64 (-1), .int .i64 1000000, .int .i64 1000001] 3)))
    have hB2 := HM2.out.cur.lt
    have HP := hide (pickInt_any [0, -1, 1000000, 1000001] w2.heap.size (by simp) (by simp) (w2.alloc (.cells #[.int .i64 0, .int .i64 (-1), .int .i64 1000000, .int .i64 1000001] 3)) B a len cap zs HM3.out.cur (by omega) (row_ints w2 [0, -1, 1000000, 1000001]))
    clear HM2
    go_wp2_with fail
    refine HP.out.mono ?_
    rintro e w4 ⟨⟨z, hz, rfl⟩, hc4, hg4⟩
    have HM4 := hide (HM3.out.grown hg4 hc4)
    clear hz hc4 hg4 HM3 HP hB2
    have f0 := HM4.out.free 1
    have HM5 := hide (HM4.out.setBatch z)
    have HD := hide (HM5.out.done (.int .i64 k) (.int .i64 z) (.string key) (.string val) (.int .i64 c) (.int .i64 s))
    obtain ⟨x0, x1, x2, x3, x4, x5⟩ := HM4.out.cells
    have g0 := HM4.out.resFree 0
    have g1 := HM4.out.resFree 1
    have g2 := HM4.out.resFree 2
    have g3 := HM4.out.resFree 3
    have g4 := HM4.out.resFree 4
    have g5 := HM4.out.resFree 5
    obtain ⟨y0, y1, y2, y3, y4, y5⟩ := HM4.out.resCells
    have hlo := HM4.out.lo
    have hne : w.heap.size ≠ D := by omega
    clear HM4 HM5
    go_wp2
    refine bodyPost_ret (v := .agg #[.int .i64 k, .int .i64 z, .string key, .string val, .int .i64 c, .int .i64 s]) (by simp [results, Try.results23, go_sem, *]) rfl ⟨⟨⟨k, z, key, val, c, s⟩, HK.out, HL.out, rfl⟩, HD.out.1, HD.out.2⟩
  by_cases k2 : x = 2
  · have t0 : (x == 0) = false := by simpa using k0
    have t1 : (x == 1) = false := by simpa using k1
    have t2 : (x == 2) = true := by simpa using k2
    clear k0 k1 k2
    have HM3 := hide (HM2.out.later ((Below.refl _ _).alloc (Nat.le_refl _) (.cells #[.string ⟨#[]⟩, .string ⟨#[110, 105, 110, 101, 98, 121, 116, 101, 115]⟩, .string ⟨#[120]⟩] 9)))
    have hB2 := HM2.out.cur.lt
    have HP := hide (pick_any [⟨#[]⟩, ⟨#[110, 105, 110, 101, 98, 121, 116, 101, 115]⟩, ⟨#[120]⟩] w2.heap.size (by simp) (by simp) (w2.alloc (.cells #[.string ⟨#[]⟩, .string ⟨#[110, 105, 110, 101, 98, 121, 116, 101, 115]⟩, .string ⟨#[120]⟩] 9)) B a len cap zs HM3.out.cur (by omega) (row_strs w2 [⟨#[]⟩, ⟨#[110, 105, 110, 101, 98, 121, 116, 101, 115]⟩, ⟨#[120]⟩]))
    clear HM2
    go_wp2_with fail
    refine HP.out.mono ?_
    rintro e w4 ⟨⟨z, hz, rfl⟩, hc4, hg4⟩
    have HZ : Hid (z.size ≤ 9) := hide (by
      simp only [List.mem_cons, List.not_mem_nil, or_false] at hz
      rcases hz with rfl | rfl | rfl <;> decide)
    have HM4 := hide (HM3.out.grown hg4 hc4)
    clear hz hc4 hg4 HM3 HP hB2
    have f0 := HM4.out.free 2
    have HM5 := hide (HM4.out.setKey z)
    have HD := hide (HM5.out.done (.int .i64 k) (.int .i64 b) (.string z) (.string val) (.int .i64 c) (.int .i64 s))
    obtain ⟨x0, x1, x2, x3, x4, x5⟩ := HM4.out.cells
    have g0 := HM4.out.resFree 0
    have g1 := HM4.out.resFree 1
    have g2 := HM4.out.resFree 2
    have g3 := HM4.out.resFree 3
    have g4 := HM4.out.resFree 4
    have g5 := HM4.out.resFree 5
    obtain ⟨y0, y1, y2, y3, y4, y5⟩ := HM4.out.resCells
    have hlo := HM4.out.lo
    have hne : w.heap.size ≠ D := by omega
    clear HM4 HM5
    go_wp2
    refine bodyPost_ret (v := .agg #[.int .i64 k, .int .i64 b, .string z, .string val, .int .i64 c, .int .i64 s]) (by simp [results, Try.results23, go_sem, *]) rfl ⟨⟨⟨k, b, z, val, c, s⟩, HZ.out, HL.out, rfl⟩, HD.out.1, HD.out.2⟩
  by_cases k3 : x = 3
  · have t0 : (x == 0) = false := by simpa using k0
    have t1 : (x == 1) = false := by simpa using k1
    have t2 : (x == 2) = false := by simpa using k2
    have t3 : (x == 3) = true := by simpa using k3
    clear k0 k1 k2 k3
    go_wp2_with fail
    go_loopw [] (fun wr => ∃ v : ByteArray, v.size ≤ 25 ∧ Hid (RMid w wr B a len cap zs D k b key v c s)) (fun wr => valSize D wr)
    case atStart => exact ⟨val, HL.out, HM2⟩
    case round =>
      clear HM2 HL
      obtain ⟨v, hv, HM2⟩ := hrel
      have HSZ : Hid (valSize D wr = 26 - v.size) := hide (by unfold valSize; rw [HM2.out.cells.2.2.2.1])
      obtain ⟨st3, hst3⟩ := HM2.out.cur
      have hy := lV_bd zs 2 st3 (by omega)
      have HCD : Hid (CurAt wr.drew B a len cap zs st3) := hide (hst3.same rfl)
      have HMD := hide (HM2.out.later (Below.refl _ _).drew)
      have c3 := HMD.out.cells.2.2.2.1
      have HKEEP : Hid (∀ w4, wr.drew.grownBy w4 (some B) → CurX w4 B a len cap zs → w4.cell? ⟨D, 3, none⟩ = some (.string v) ∧ Hid (RMid w w4 B a len cap zs D k b key v c s)) := hide (fun w4 h1 h2 => ⟨(HMD.out.grown h1 h2).cells.2.2.2.1, hide (HMD.out.grown h1 h2)⟩)
      clear hst3
      have hwy : IntKind.i64.wrap (24 + lV zs 2 st3) = 24 + lV zs 2 st3 := by rw [IntKind.wrap_i64]; omega
      go_wp2_with fail
      go_region_held3 (fun w' => w'.cell? ⟨D, 3, none⟩ = some (.string v) ∧ Hid (RMid w w' B a len cap zs D k b key v c s)) (first | assumption | exact ⟨c3, HMD⟩) (first
        | (go_at_call 31; refine (below_any 2 wr.drew B a len cap zs st3 HCD.out).mono ?_; rintro e w4 ⟨rfl, hc4, hg4⟩; have hS4 := HKEEP.out w4 hg4 ⟨_, hc4⟩; clear hc4 hg4))
      have HM4 := hide hS4.2.out
      clear hS4 HKEEP c3 HMD HCD HM2
      clear hwy
      generalize lV zs 2 st3 = y at *
      obtain ⟨x0, x1, x2, x3, x4, x5⟩ := HM4.out.cells
      have f3 := HM4.out.free 3
      by_cases hlt : (v.size : Int) < 24 + y
      · have q : decide ((v.size : Int) < 24 + y) = true := by simpa using hlt
        have HM5 := hide (HM4.out.setVal (v ++ ⟨#[118]⟩))
        have hsz : (v ++ (⟨#[118]⟩ : ByteArray)).size = v.size + 1 := by rw [ByteArray.size_append]; rfl
        have HV5 : Hid ((v ++ (⟨#[118]⟩ : ByteArray)).size ≤ 25) := hide (by omega)
        have HS5 : Hid (valSize D (w4.setCell ⟨D, 3, none⟩ (.string (v ++ ⟨#[118]⟩))) < valSize D wr) := hide (by rw [HSZ.out]; unfold valSize; rw [HM5.out.cells.2.2.2.1]; simp only; omega)
        clear HM4 hsz
        go_wp2
        go_roundw
        case rel => exact ⟨_, HV5.out, HM5⟩
        case measure => exact HS5.out
      · have q : decide ((v.size : Int) < 24 + y) = false := by simpa using hlt
        clear x0 x1 x2 x3 x4 x5 f3
        have HD := hide (HM4.out.done (.int .i64 k) (.int .i64 b) (.string key) (.string v) (.int .i64 c) (.int .i64 s))
        obtain ⟨x0, x1, x2, x3, x4, x5⟩ := HM4.out.cells
        have g0 := HM4.out.resFree 0
        have g1 := HM4.out.resFree 1
        have g2 := HM4.out.resFree 2
        have g3 := HM4.out.resFree 3
        have g4 := HM4.out.resFree 4
        have g5 := HM4.out.resFree 5
        obtain ⟨y0, y1, y2, y3, y4, y5⟩ := HM4.out.resCells
        have hlo := HM4.out.lo
        have hne : w.heap.size ≠ D := by omega
        clear HM4
        go_wp2
        refine bodyPost_ret (v := .agg #[.int .i64 k, .int .i64 b, .string key, .string v, .int .i64 c, .int .i64 s]) (by simp [results, Try.results23, go_sem, *]) rfl ⟨⟨⟨k, b, key, v, c, s⟩, HK.out, hv, rfl⟩, HD.out.1, HD.out.2⟩
  by_cases k4 : x = 4
  · have t0 : (x == 0) = false := by simpa using k0
    have t1 : (x == 1) = false := by simpa using k1
    have t2 : (x == 2) = false := by simpa using k2
    have t3 : (x == 3) = false := by simpa using k3
    have t4 : (x == 4) = true := by simpa using k4
    clear k0 k1 k2 k3 k4
    have HM3 := hide (HM2.out.later ((Below.refl _ _).alloc (Nat.le_refl _) (.cells #[.int .i64 (-1), .int .i64 8, .int .i64 9, .int .i64 20, .int .i64 21] 3)))
    have hB2 := HM2.out.cur.lt
    have HP := hide (pickInt_any [-1, 8, 9, 20, 21] w2.heap.size (by simp) (by simp) (w2.alloc (.cells #[.int .i64 (-1), .int .i64 8, .int .i64 9, .int .i64 20, .int .i64 21] 3)) B a len cap zs HM3.out.cur (by omega) (row_ints w2 [-1, 8, 9, 20, 21]))
    clear HM2
    go_wp2_with fail
    refine HP.out.mono ?_
    rintro e w4 ⟨⟨z, hz, rfl⟩, hc4, hg4⟩
    have HM4 := hide (HM3.out.grown hg4 hc4)
    clear hz hc4 hg4 HM3 HP hB2
    have f0 := HM4.out.free 4
    have HM5 := hide (HM4.out.setCnt z)
    have HD := hide (HM5.out.done (.int .i64 k) (.int .i64 b) (.string key) (.string val) (.int .i64 z) (.int .i64 s))
    obtain ⟨x0, x1, x2, x3, x4, x5⟩ := HM4.out.cells
    have g0 := HM4.out.resFree 0
    have g1 := HM4.out.resFree 1
    have g2 := HM4.out.resFree 2
    have g3 := HM4.out.resFree 3
    have g4 := HM4.out.resFree 4
    have g5 := HM4.out.resFree 5
    obtain ⟨y0, y1, y2, y3, y4, y5⟩ := HM4.out.resCells
    have hlo := HM4.out.lo
    have hne : w.heap.size ≠ D := by omega
    clear HM4 HM5
    go_wp2
    refine bodyPost_ret (v := .agg #[.int .i64 k, .int .i64 b, .string key, .string val, .int .i64 z, .int .i64 s]) (by simp [results, Try.results23, go_sem, *]) rfl ⟨⟨⟨k, b, key, val, z, s⟩, HK.out, HL.out, rfl⟩, HD.out.1, HD.out.2⟩
  by_cases k5 : x = 5
  · have t0 : (x == 0) = false := by simpa using k0
    have t1 : (x == 1) = false := by simpa using k1
    have t2 : (x == 2) = false := by simpa using k2
    have t3 : (x == 3) = false := by simpa using k3
    have t4 : (x == 4) = false := by simpa using k4
    have t5 : (x == 5) = true := by simpa using k5
    clear k0 k1 k2 k3 k4 k5
    have HM3 := hide (HM2.out.later ((Below.refl _ _).alloc (Nat.le_refl _) (.cells #[.int .i64 (-1), .int .i64 4294967296] 3)))
    have hB2 := HM2.out.cur.lt
    have HP := hide (pickInt_any [-1, 4294967296] w2.heap.size (by simp) (by simp) (w2.alloc (.cells #[.int .i64 (-1), .int .i64 4294967296] 3)) B a len cap zs HM3.out.cur (by omega) (row_ints w2 [-1, 4294967296]))
    clear HM2
    go_wp2_with fail
    refine HP.out.mono ?_
    rintro e w4 ⟨⟨z, hz, rfl⟩, hc4, hg4⟩
    have HM4 := hide (HM3.out.grown hg4 hc4)
    clear hz hc4 hg4 HM3 HP hB2
    have f0 := HM4.out.free 5
    have HM5 := hide (HM4.out.setSum z)
    have HD := hide (HM5.out.done (.int .i64 k) (.int .i64 b) (.string key) (.string val) (.int .i64 c) (.int .i64 z))
    obtain ⟨x0, x1, x2, x3, x4, x5⟩ := HM4.out.cells
    have g0 := HM4.out.resFree 0
    have g1 := HM4.out.resFree 1
    have g2 := HM4.out.resFree 2
    have g3 := HM4.out.resFree 3
    have g4 := HM4.out.resFree 4
    have g5 := HM4.out.resFree 5
    obtain ⟨y0, y1, y2, y3, y4, y5⟩ := HM4.out.resCells
    have hlo := HM4.out.lo
    have hne : w.heap.size ≠ D := by omega
    clear HM4 HM5
    go_wp2
    refine bodyPost_ret (v := .agg #[.int .i64 k, .int .i64 b, .string key, .string val, .int .i64 c, .int .i64 z]) (by simp [results, Try.results23, go_sem, *]) rfl ⟨⟨⟨k, b, key, val, c, z⟩, HK.out, HL.out, rfl⟩, HD.out.1, HD.out.2⟩
  have t0 : (x == 0) = false := by simpa using k0
  have t1 : (x == 1) = false := by simpa using k1
  have t2 : (x == 2) = false := by simpa using k2
  have t3 : (x == 3) = false := by simpa using k3
  have t4 : (x == 4) = false := by simpa using k4
  have t5 : (x == 5) = false := by simpa using k5
  clear k0 k1 k2 k3 k4 k5
  have HD := hide (HM2.out.done (.int .i64 k) (.int .i64 b) (.string key) (.string val) (.int .i64 c) (.int .i64 s))
  obtain ⟨x0, x1, x2, x3, x4, x5⟩ := HM2.out.cells
  have g0 := HM2.out.resFree 0
  have g1 := HM2.out.resFree 1
  have g2 := HM2.out.resFree 2
  have g3 := HM2.out.resFree 3
  have g4 := HM2.out.resFree 4
  have g5 := HM2.out.resFree 5
  obtain ⟨y0, y1, y2, y3, y4, y5⟩ := HM2.out.resCells
  have hlo := HM2.out.lo
  have hne : w.heap.size ≠ D := by omega
  clear HM2
  go_wp2
  refine bodyPost_ret (v := .agg #[.int .i64 k, .int .i64 b, .string key, .string val, .int .i64 c, .int .i64 s]) (by simp [results, Try.results23, go_sem, *]) rfl ⟨⟨⟨k, b, key, val, c, s⟩, HK.out, HL.out, rfl⟩, HD.out.1, HD.out.2⟩

end Go.Proofs.Ytlppgbfpbkpocaa
