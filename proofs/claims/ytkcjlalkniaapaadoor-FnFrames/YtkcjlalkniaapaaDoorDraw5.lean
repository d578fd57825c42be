/-
  spec.l5Key and spec.l5Rec: a key, and a record, drawn.
-/
import Derived.Test.YtkcjlalkniaapaaDoorPickS
import Derived.Test.YtkcjlalkniaapaaDoorBA
namespace Go.Proofs.YtkcjlalkniaapaaDoor
open Go.RowKit
open Plain

set_option maxRecDepth 100000 in
set_option maxHeartbeats 1000000 in
theorem key5_any (w : World) (B : Nat) (a : Option Addr) (len cap : Nat) (zs : List Int) (hc : CurX w B a len cap zs) :
    Calls Tryd.prog 85 #[.pointer (some ⟨B, 0, none⟩)] w fun e w' => (∃ s : ByteArray, s.size ≤ 8 ∧ e = .returned (.string s)) ∧ CurX w' B a len cap zs ∧ w.grownBy w' (some B) := by
  have hB := hc.lt
  have HC := hide hc
  clear hc
  go_enter Tryd.func85, Tryd.ntmps85
  go_wp2_with fail
  refine (pick_any [⟨#[97]⟩, ⟨#[98]⟩, ⟨#[99]⟩, ⟨#[107, 101, 121]⟩, ⟨#[108, 111, 110, 103, 110, 97, 109, 101]⟩] w.heap.size (by simp) (by simp) _ B a len cap zs (HC.out.below ((Below.refl _ _).alloc (Nat.le_refl _) _) hB) (by omega) (row_strs w _)).mono ?_
  rintro e w1 ⟨⟨s, hs, rfl⟩, hc1, hg1⟩
  have HC1 := hide hc1
  have HG1 := hide (grown_new hg1)
  have HS : Hid (s.size ≤ 8) := hide (by
    simp only [List.mem_cons, List.not_mem_nil, or_false] at hs
    rcases hs with rfl | rfl | rfl | rfl | rfl <;> decide)
  clear hc1 hg1 hs
  go_wp2
  go_ret
  exact ⟨⟨s, HS.out, rfl⟩, HC1.out, HG1.out⟩

/-- In the midst of a draw: the cursor in block B, the answer's block (still zero), the record in block D. -/
structure RMid (w wr : World) (B : Nat) (a : Option Addr) (len cap : Nat) (zs : List Int) (D : Nat) (k b : Int) (key val : ByteArray) (c s : Int) : Prop where
  cur : CurX wr B a len cap zs
  res : wr.heap[w.heap.size]? = some (.cells #[.int .i64 0, .int .i64 0, .string ⟨#[]⟩, .string ⟨#[]⟩, .int .i64 0, .int .i64 0] 33 (0, 0))
  row : wr.heap[D]? = some (.cells #[.int .i64 k, .int .i64 b, .string key, .string val, .int .i64 c, .int .i64 s] 33 (0, 0))
  gro : w.grownBy wr (some B)
  lo : w.heap.size < D
  hB : B < w.heap.size
theorem RMid.grown {w wr : World} {B : Nat} {a : Option Addr} {len cap : Nat} {zs : List Int} {D : Nat} {k b : Int} {key val : ByteArray} {c s : Int} {wr' : World} (h : RMid w wr B a len cap zs D k b key val c s) (hg : wr.grownBy wr' (some B)) (hc : CurX wr' B a len cap zs) : RMid w wr' B a len cap zs D k b key val c s where
  cur := hc
  res := by have := h.hB; rw [hg.block _ (lt_of_block h.res) (fun e => by injection e with e; omega)]; exact h.res
  row := by have := h.hB; have := h.lo; rw [hg.block _ (lt_of_block h.row) (fun e => by injection e with e; omega)]; exact h.row
  gro := grown_trans h.gro hg
  lo := h.lo
  hB := h.hB
theorem RMid.later {w wr : World} {B : Nat} {a : Option Addr} {len cap : Nat} {zs : List Int} {D : Nat} {k b : Int} {key val : ByteArray} {c s : Int} {wr' : World} (h : RMid w wr B a len cap zs D k b key val c s) (hb : Below wr.heap.size wr wr') : RMid w wr' B a len cap zs D k b key val c s :=
  h.grown (below_grown _ hb) (h.cur.below hb h.cur.lt)
theorem RMid.cells {w wr : World} {B : Nat} {a : Option Addr} {len cap : Nat} {zs : List Int} {D : Nat} {k b : Int} {key val : ByteArray} {c s : Int} (h : RMid w wr B a len cap zs D k b key val c s) : wr.cell? ⟨D, 0, none⟩ = some (.int .i64 k) ∧ wr.cell? ⟨D, 1, none⟩ = some (.int .i64 b) ∧ wr.cell? ⟨D, 2, none⟩ = some (.string key) ∧ wr.cell? ⟨D, 3, none⟩ = some (.string val) ∧ wr.cell? ⟨D, 4, none⟩ = some (.int .i64 c) ∧ wr.cell? ⟨D, 5, none⟩ = some (.int .i64 s) := by
  refine ⟨?_, ?_, ?_, ?_, ?_, ?_⟩ <;> (rw [cell_of_row wr D _ _ _ _ h.row]; rfl)
theorem RMid.free {w wr : World} {B : Nat} {a : Option Addr} {len cap : Nat} {zs : List Int} {D : Nat} {k b : Int} {key val : ByteArray} {c s : Int} (h : RMid w wr B a len cap zs D k b key val c s) (j : Nat) : wr.frozen? ⟨D, j, none⟩ = false := by simp [World.frozen?, h.row]
theorem RMid.resCells {w wr : World} {B : Nat} {a : Option Addr} {len cap : Nat} {zs : List Int} {D : Nat} {k b : Int} {key val : ByteArray} {c s : Int} (h : RMid w wr B a len cap zs D k b key val c s) : wr.cell? ⟨w.heap.size, 0, none⟩ = some (.int .i64 0) ∧ wr.cell? ⟨w.heap.size, 1, none⟩ = some (.int .i64 0) ∧ wr.cell? ⟨w.heap.size, 2, none⟩ = some (.string ⟨#[]⟩) ∧ wr.cell? ⟨w.heap.size, 3, none⟩ = some (.string ⟨#[]⟩) ∧ wr.cell? ⟨w.heap.size, 4, none⟩ = some (.int .i64 0) ∧ wr.cell? ⟨w.heap.size, 5, none⟩ = some (.int .i64 0) := by
  refine ⟨?_, ?_, ?_, ?_, ?_, ?_⟩ <;> (rw [cell_of_row wr _ _ _ _ _ h.res]; rfl)
theorem RMid.resFree {w wr : World} {B : Nat} {a : Option Addr} {len cap : Nat} {zs : List Int} {D : Nat} {k b : Int} {key val : ByteArray} {c s : Int} (h : RMid w wr B a len cap zs D k b key val c s) (j : Nat) : wr.frozen? ⟨w.heap.size, j, none⟩ = false := by simp [World.frozen?, h.res]
theorem setCell_size (w : World) (p : Addr) (v : Value) : (w.setCell p v).heap.size = w.heap.size := by simp [World.setCell]
theorem RMid.setKind {w wr : World} {B : Nat} {a : Option Addr} {len cap : Nat} {zs : List Int} {D : Nat} {k b : Int} {key val : ByteArray} {c s : Int} (h : RMid w wr B a len cap zs D k b key val c s) (x : Int) : RMid w (wr.setCell ⟨D, 0, none⟩ (.int .i64 x)) B a len cap zs D x b key val c s where
  cur := h.cur.set _ _ (by have := h.hB; have := h.lo; show B < D; omega)
  res := by rw [Below.heap_setCell _ _ _ _ (by have := h.lo; show w.heap.size ≠ D; omega)]; exact h.res
  row := by rw [setCell_eq_setRow wr D _ _ _ _ _ h.row]; exact setRow_heap wr D _ _ _ _ h.row
  gro := ⟨h.gro.os, h.gro.tape, h.gro.output, by rw [setCell_size]; exact h.gro.size, fun j hj hr => by rw [Below.heap_setCell _ _ _ _ (by have := h.lo; show j ≠ D; omega)]; exact h.gro.block j hj hr⟩
  lo := h.lo
  hB := h.hB
theorem RMid.setBatch {w wr : World} {B : Nat} {a : Option Addr} {len cap : Nat} {zs : List Int} {D : Nat} {k b : Int} {key val : ByteArray} {c s : Int} (h : RMid w wr B a len cap zs D k b key val c s) (x : Int) : RMid w (wr.setCell ⟨D, 1, none⟩ (.int .i64 x)) B a len cap zs D k x key val c s where
  cur := h.cur.set _ _ (by have := h.hB; have := h.lo; show B < D; omega)
  res := by rw [Below.heap_setCell _ _ _ _ (by have := h.lo; show w.heap.size ≠ D; omega)]; exact h.res
  row := by rw [setCell_eq_setRow wr D _ _ _ _ _ h.row]; exact setRow_heap wr D _ _ _ _ h.row
  gro := ⟨h.gro.os, h.gro.tape, h.gro.output, by rw [setCell_size]; exact h.gro.size, fun j hj hr => by rw [Below.heap_setCell _ _ _ _ (by have := h.lo; show j ≠ D; omega)]; exact h.gro.block j hj hr⟩
  lo := h.lo
  hB := h.hB
theorem RMid.setKey {w wr : World} {B : Nat} {a : Option Addr} {len cap : Nat} {zs : List Int} {D : Nat} {k b : Int} {key val : ByteArray} {c s : Int} (h : RMid w wr B a len cap zs D k b key val c s) (x : ByteArray) : RMid w (wr.setCell ⟨D, 2, none⟩ (.string x)) B a len cap zs D k b x val c s where
  cur := h.cur.set _ _ (by have := h.hB; have := h.lo; show B < D; omega)
  res := by rw [Below.heap_setCell _ _ _ _ (by have := h.lo; show w.heap.size ≠ D; omega)]; exact h.res
  row := by rw [setCell_eq_setRow wr D _ _ _ _ _ h.row]; exact setRow_heap wr D _ _ _ _ h.row
  gro := ⟨h.gro.os, h.gro.tape, h.gro.output, by rw [setCell_size]; exact h.gro.size, fun j hj hr => by rw [Below.heap_setCell _ _ _ _ (by have := h.lo; show j ≠ D; omega)]; exact h.gro.block j hj hr⟩
  lo := h.lo
  hB := h.hB
theorem RMid.setVal {w wr : World} {B : Nat} {a : Option Addr} {len cap : Nat} {zs : List Int} {D : Nat} {k b : Int} {key val : ByteArray} {c s : Int} (h : RMid w wr B a len cap zs D k b key val c s) (x : ByteArray) : RMid w (wr.setCell ⟨D, 3, none⟩ (.string x)) B a len cap zs D k b key x c s where
  cur := h.cur.set _ _ (by have := h.hB; have := h.lo; show B < D; omega)
  res := by rw [Below.heap_setCell _ _ _ _ (by have := h.lo; show w.heap.size ≠ D; omega)]; exact h.res
  row := by rw [setCell_eq_setRow wr D _ _ _ _ _ h.row]; exact setRow_heap wr D _ _ _ _ h.row
  gro := ⟨h.gro.os, h.gro.tape, h.gro.output, by rw [setCell_size]; exact h.gro.size, fun j hj hr => by rw [Below.heap_setCell _ _ _ _ (by have := h.lo; show j ≠ D; omega)]; exact h.gro.block j hj hr⟩
  lo := h.lo
  hB := h.hB
theorem RMid.setCnt {w wr : World} {B : Nat} {a : Option Addr} {len cap : Nat} {zs : List Int} {D : Nat} {k b : Int} {key val : ByteArray} {c s : Int} (h : RMid w wr B a len cap zs D k b key val c s) (x : Int) : RMid w (wr.setCell ⟨D, 4, none⟩ (.int .i64 x)) B a len cap zs D k b key val x s where
  cur := h.cur.set _ _ (by have := h.hB; have := h.lo; show B < D; omega)
  res := by rw [Below.heap_setCell _ _ _ _ (by have := h.lo; show w.heap.size ≠ D; omega)]; exact h.res
  row := by rw [setCell_eq_setRow wr D _ _ _ _ _ h.row]; exact setRow_heap wr D _ _ _ _ h.row
  gro := ⟨h.gro.os, h.gro.tape, h.gro.output, by rw [setCell_size]; exact h.gro.size, fun j hj hr => by rw [Below.heap_setCell _ _ _ _ (by have := h.lo; show j ≠ D; omega)]; exact h.gro.block j hj hr⟩
  lo := h.lo
  hB := h.hB
theorem RMid.setSum {w wr : World} {B : Nat} {a : Option Addr} {len cap : Nat} {zs : List Int} {D : Nat} {k b : Int} {key val : ByteArray} {c s : Int} (h : RMid w wr B a len cap zs D k b key val c s) (x : Int) : RMid w (wr.setCell ⟨D, 5, none⟩ (.int .i64 x)) B a len cap zs D k b key val c x where
  cur := h.cur.set _ _ (by have := h.hB; have := h.lo; show B < D; omega)
  res := by rw [Below.heap_setCell _ _ _ _ (by have := h.lo; show w.heap.size ≠ D; omega)]; exact h.res
  row := by rw [setCell_eq_setRow wr D _ _ _ _ _ h.row]; exact setRow_heap wr D _ _ _ _ h.row
  gro := ⟨h.gro.os, h.gro.tape, h.gro.output, by rw [setCell_size]; exact h.gro.size, fun j hj hr => by rw [Below.heap_setCell _ _ _ _ (by have := h.lo; show j ≠ D; omega)]; exact h.gro.block j hj hr⟩
  lo := h.lo
  hB := h.hB
/-- A store behind what w has. -/
theorem grown_set1 {w wr : World} {B : Nat} (h : w.grownBy wr (some B)) (p : Addr) (v : Value) (hp : w.heap.size ≤ p.block) : w.grownBy (wr.setCell p v) (some B) :=
  ⟨h.os, h.tape, h.output, by rw [setCell_size]; exact h.size, fun j hj hr => by rw [Below.heap_setCell _ _ _ _ (by omega)]; exact h.block j hj hr⟩
/-- The record goes into the answer's block. -/
theorem RMid.done {w wr : World} {B : Nat} {a : Option Addr} {len cap : Nat} {zs : List Int} {D : Nat} {k b : Int} {key val : ByteArray} {c s : Int} (h : RMid w wr B a len cap zs D k b key val c s) (v0 v1 v2 v3 v4 v5 : Value) :
    CurX ((((((wr.setCell ⟨w.heap.size, 0, none⟩ v0).setCell ⟨w.heap.size, 1, none⟩ v1).setCell ⟨w.heap.size, 2, none⟩ v2).setCell ⟨w.heap.size, 3, none⟩ v3).setCell ⟨w.heap.size, 4, none⟩ v4).setCell ⟨w.heap.size, 5, none⟩ v5) B a len cap zs ∧
    w.grownBy ((((((wr.setCell ⟨w.heap.size, 0, none⟩ v0).setCell ⟨w.heap.size, 1, none⟩ v1).setCell ⟨w.heap.size, 2, none⟩ v2).setCell ⟨w.heap.size, 3, none⟩ v3).setCell ⟨w.heap.size, 4, none⟩ v4).setCell ⟨w.heap.size, 5, none⟩ v5) (some B) := by
  have hB := h.hB
  refine ⟨(((((h.cur.set ⟨w.heap.size, 0, none⟩ v0 hB).set ⟨w.heap.size, 1, none⟩ v1 hB).set ⟨w.heap.size, 2, none⟩ v2 hB).set ⟨w.heap.size, 3, none⟩ v3 hB).set ⟨w.heap.size, 4, none⟩ v4 hB).set ⟨w.heap.size, 5, none⟩ v5 hB, ?_⟩
  exact grown_set1 (grown_set1 (grown_set1 (grown_set1 (grown_set1 (grown_set1 h.gro ⟨w.heap.size, 0, none⟩ v0 (Nat.le_refl _)) ⟨w.heap.size, 1, none⟩ v1 (Nat.le_refl _)) ⟨w.heap.size, 2, none⟩ v2 (Nat.le_refl _)) ⟨w.heap.size, 3, none⟩ v3 (Nat.le_refl _)) ⟨w.heap.size, 4, none⟩ v4 (Nat.le_refl _)) ⟨w.heap.size, 5, none⟩ v5 (Nat.le_refl _)
/-- The record is made. -/
theorem RMid.start {w W0 w2 : World} {B : Nat} {a : Option Addr} {len cap : Nat} {zs : List Int} (hW : W0 = w.alloc (.cells #[.int .i64 0, .int .i64 0, .string ⟨#[]⟩, .string ⟨#[]⟩, .int .i64 0, .int .i64 0] 33)) (hB : B < w.heap.size) (hg : W0.grownBy w2 (some B)) (hc : CurX w2 B a len cap zs) (k b : Int) (key val : ByteArray) (c s : Int) :
    RMid w (w2.alloc (.cells #[.int .i64 k, .int .i64 b, .string key, .string val, .int .i64 c, .int .i64 s] 33)) B a len cap zs w2.heap.size k b key val c s := by
  have hs : W0.heap.size = w.heap.size + 1 := by rw [hW]; simp
  have hz : w2.heap[w.heap.size]? = some (.cells #[.int .i64 0, .int .i64 0, .string ⟨#[]⟩, .string ⟨#[]⟩, .int .i64 0, .int .i64 0] 33 (0, 0)) := by
    rw [hg.block _ (by omega) (fun e => by injection e with e; omega), hW]
    exact heap_alloc_new w _
  have hlt := hg.size
  have hA : Below w2.heap.size w2 (w2.alloc (.cells #[.int .i64 k, .int .i64 b, .string key, .string val, .int .i64 c, .int .i64 s] 33)) := (Below.refl _ _).alloc (Nat.le_refl _) _
  refine ⟨hc.below hA hc.lt, ?_, heap_alloc_new w2 _, ?_, by omega, hB⟩
  · rw [hA.block _ (by omega)]; exact hz
  · rw [hW] at hg
    exact grown_trans (grown_new hg) (below_grown _ hA)

set_option maxRecDepth 100000 in
set_option maxHeartbeats 4000000 in
theorem rec5_any (w : World) (B : Nat) (a : Option Addr) (len cap : Nat) (zs : List Int) (hc : CurX w B a len cap zs) :
    Calls Tryd.prog 77 #[.pointer (some ⟨B, 0, none⟩)] w fun e w' => (∃ r : RecV, r.key.size ≤ 8 ∧ r.val.size ≤ 20 ∧ e = .returned (.agg #[.int .i64 r.kind, .int .i64 r.batch, .string r.key, .string r.val, .int .i64 r.cnt, .int .i64 r.sum])) ∧ CurX w' B a len cap zs ∧ w.grownBy w' (some B) := by
  have hB := hc.lt
  obtain ⟨W0, hW⟩ : ∃ W0, W0 = w.alloc (.cells #[.int .i64 0, .int .i64 0, .string ⟨#[]⟩, .string ⟨#[]⟩, .int .i64 0, .int .i64 0] 33) := ⟨_, rfl⟩
  have hc0 : CurX W0 B a len cap zs := by rw [hW]; exact hc.below ((Below.refl _ _).alloc (Nat.le_refl _) _) hB
  obtain ⟨st, hst⟩ := hc0
  have HC := hide hst
  have HW := hide hW
  clear hc hst
  go_enter Tryd.func77, Tryd.ntmps77
  go_wp2_with fail
  rw [← hW]
  clear hW
  refine (below_any 5 W0 B a len cap zs st HC.out).mono ?_
  rintro e w1 ⟨rfl, hc1, hg1⟩
  have h5 := lV_bd zs 5 st (by omega)
  have HC1 := hide hc1
  have HG1 := hide hg1
  clear hc1 hg1 HC
  generalize lS zs 5 st = st1 at *
  generalize lV zs 5 st = x at *
  go_wp2_with fail
  refine (below_any 300 w1 B a len cap zs st1 HC1.out).mono ?_
  rintro e w2 ⟨rfl, hc2, hg2⟩
  have h300 := lV_bd zs 300 st1 (by omega)
  have HM0 := hide (RMid.start HW.out hB (grown_trans HG1.out hg2) ⟨_, hc2⟩)
  clear hc2 hg2 HC1 HG1 HW
  generalize lV zs 300 st1 = y at *
  -- by kinds
  by_cases k1 : 1 + x = 1
  · have t1 : ((1 + x) == 1) = true := by simpa using k1
    clear k1
    obtain ⟨D, hD⟩ : ∃ D, w2.heap.size = D := ⟨_, rfl⟩
    have HM := hide (HM0.out (1 + x) (1 + y) ⟨#[]⟩ ⟨#[]⟩ 0 0)
    rw [hD] at HM
    clear HM0
    go_wp2_with fail
    clear hD
    refine (key5_any _ B a len cap zs HM.out.cur).mono ?_
    rintro e w3 ⟨⟨key, hk, rfl⟩, hc3, hg3⟩
    have HM3 := hide (HM.out.grown hg3 hc3)
    have HK := hide hk
    clear hc3 hg3 HM hk
    have f2 := HM3.out.free 2
    have HM4 := hide (HM3.out.setKey key)
    obtain ⟨x0, x1, x2, x3, x4, x5⟩ := HM3.out.cells
    obtain ⟨st4, hst4⟩ := HM4.out.cur
    have HC4 := hide hst4
    clear hst4
    go_wp2_with fail
    clear x0 x1 x2 x3 x4 x5 f2
    refine (text_any 20 (by omega) (by omega) _ B a len cap zs st4 HC4.out).mono ?_
    rintro e w5 ⟨rfl, hc5, hg5⟩
    have hl := tV_length zs 20 st4 (by omega)
    have HL : Hid ((strOfNums (tV zs 20 st4)).size ≤ 20) := hide (by rw [strOfNums_size]; omega)
    have HM5 := hide (HM4.out.grown hg5 ⟨_, hc5⟩)
    clear hc5 hg5 HM4 HC4 hl HM3
    generalize strOfNums (tV zs 20 st4) = val at *
    have f3 := HM5.out.free 3
    have HM6 := hide (HM5.out.setVal val)
    have HD := hide (HM6.out.done (.int .i64 (1 + x)) (.int .i64 (1 + y)) (.string key) (.string val) (.int .i64 0) (.int .i64 0))
    obtain ⟨x0, x1, x2, x3, x4, x5⟩ := HM5.out.cells
    have g0 := HM5.out.resFree 0
    have g1 := HM5.out.resFree 1
    have g2 := HM5.out.resFree 2
    have g3 := HM5.out.resFree 3
    have g4 := HM5.out.resFree 4
    have g5 := HM5.out.resFree 5
    obtain ⟨y0, y1, y2, y3, y4, y5⟩ := HM5.out.resCells
    have hlo := HM5.out.lo
    have hne : w.heap.size ≠ D := by omega
    clear HM5 HM6
    go_wp2
    refine bodyPost_ret (v := .agg #[.int .i64 (1 + x), .int .i64 (1 + y), .string key, .string val, .int .i64 0, .int .i64 0]) (by simp [results, Tryd.results77, go_sem, *]) rfl ⟨⟨⟨(1 + x), (1 + y), key, val, 0, 0⟩, HK.out, HL.out, rfl⟩, HD.out.1, HD.out.2⟩
  by_cases k4 : 1 + x = 4
  · have t1 : ((1 + x) == 1) = false := by simpa using k1
    have t4 : ((1 + x) == 4) = true := by simpa using k4
    clear k1 k4
    obtain ⟨D, hD⟩ : ∃ D, w2.heap.size = D := ⟨_, rfl⟩
    have HM := hide (HM0.out (1 + x) (1 + y) ⟨#[]⟩ ⟨#[]⟩ 0 0)
    rw [hD] at HM
    clear HM0
    go_wp2_with fail
    clear hD
    refine (key5_any _ B a len cap zs HM.out.cur).mono ?_
    rintro e w3 ⟨⟨key, hk, rfl⟩, hc3, hg3⟩
    have HM3 := hide (HM.out.grown hg3 hc3)
    have HK := hide hk
    clear hc3 hg3 HM hk
    have f2 := HM3.out.free 2
    have HM4 := hide (HM3.out.setKey key)
    obtain ⟨x0, x1, x2, x3, x4, x5⟩ := HM3.out.cells
    obtain ⟨st4, hst4⟩ := HM4.out.cur
    have HC4 := hide hst4
    clear hst4
    go_wp2_with fail
    clear x0 x1 x2 x3 x4 x5 f2
    refine (text_any 20 (by omega) (by omega) _ B a len cap zs st4 HC4.out).mono ?_
    rintro e w5 ⟨rfl, hc5, hg5⟩
    have hl := tV_length zs 20 st4 (by omega)
    have HL : Hid ((strOfNums (tV zs 20 st4)).size ≤ 20) := hide (by rw [strOfNums_size]; omega)
    have HM5 := hide (HM4.out.grown hg5 ⟨_, hc5⟩)
    clear hc5 hg5 HM4 HC4 hl HM3
    generalize strOfNums (tV zs 20 st4) = val at *
    have f3 := HM5.out.free 3
    have HM6 := hide (HM5.out.setVal val)
    have HD := hide (HM6.out.done (.int .i64 (1 + x)) (.int .i64 (1 + y)) (.string key) (.string val) (.int .i64 0) (.int .i64 0))
    obtain ⟨x0, x1, x2, x3, x4, x5⟩ := HM5.out.cells
    have g0 := HM5.out.resFree 0
    have g1 := HM5.out.resFree 1
    have g2 := HM5.out.resFree 2
    have g3 := HM5.out.resFree 3
    have g4 := HM5.out.resFree 4
    have g5 := HM5.out.resFree 5
    obtain ⟨y0, y1, y2, y3, y4, y5⟩ := HM5.out.resCells
    have hlo := HM5.out.lo
    have hne : w.heap.size ≠ D := by omega
    clear HM5 HM6
    go_wp2
    refine bodyPost_ret (v := .agg #[.int .i64 (1 + x), .int .i64 (1 + y), .string key, .string val, .int .i64 0, .int .i64 0]) (by simp [results, Tryd.results77, go_sem, *]) rfl ⟨⟨⟨(1 + x), (1 + y), key, val, 0, 0⟩, HK.out, HL.out, rfl⟩, HD.out.1, HD.out.2⟩
  by_cases k2 : 1 + x = 2
  · have t1 : ((1 + x) == 1) = false := by simpa using k1
    have t4 : ((1 + x) == 4) = false := by simpa using k4
    have t2 : ((1 + x) == 2) = true := by simpa using k2
    clear k1 k4 k2
    obtain ⟨D, hD⟩ : ∃ D, w2.heap.size = D := ⟨_, rfl⟩
    have HM := hide (HM0.out (1 + x) (1 + y) ⟨#[]⟩ ⟨#[]⟩ 0 0)
    rw [hD] at HM
    clear HM0
    go_wp2_with fail
    clear hD
    refine (key5_any _ B a len cap zs HM.out.cur).mono ?_
    rintro e w3 ⟨⟨key, hk, rfl⟩, hc3, hg3⟩
    have HM3 := hide (HM.out.grown hg3 hc3)
    have HK := hide hk
    clear hc3 hg3 HM hk
    have f2 := HM3.out.free 2
    have HM4 := hide (HM3.out.setKey key)
    have HD := hide (HM4.out.done (.int .i64 (1 + x)) (.int .i64 (1 + y)) (.string key) (.string ⟨#[]⟩) (.int .i64 0) (.int .i64 0))
    obtain ⟨x0, x1, x2, x3, x4, x5⟩ := HM3.out.cells
    have g0 := HM3.out.resFree 0
    have g1 := HM3.out.resFree 1
    have g2 := HM3.out.resFree 2
    have g3 := HM3.out.resFree 3
    have g4 := HM3.out.resFree 4
    have g5 := HM3.out.resFree 5
    obtain ⟨y0, y1, y2, y3, y4, y5⟩ := HM3.out.resCells
    have hlo := HM3.out.lo
    have hne : w.heap.size ≠ D := by omega
    clear HM3 HM4
    go_wp2
    refine bodyPost_ret (v := .agg #[.int .i64 (1 + x), .int .i64 (1 + y), .string key, .string ⟨#[]⟩, .int .i64 0, .int .i64 0]) (by simp [results, Tryd.results77, go_sem, *]) rfl ⟨⟨⟨(1 + x), (1 + y), key, ⟨#[]⟩, 0, 0⟩, HK.out, Nat.zero_le _, rfl⟩, HD.out.1, HD.out.2⟩
  have t1 : ((1 + x) == 1) = false := by simpa using k1
  have t4 : ((1 + x) == 4) = false := by simpa using k4
  have t2 : ((1 + x) == 2) = false := by simpa using k2
  clear k1 k4 k2
  obtain ⟨D, hD⟩ : ∃ D, w2.heap.size = D := ⟨_, rfl⟩
  have HM := hide (HM0.out (1 + x) (1 + y) ⟨#[]⟩ ⟨#[]⟩ 0 0)
  rw [hD] at HM
  clear HM0
  obtain ⟨st3, hst3⟩ := HM.out.cur
  have HC3 := hide hst3
  clear hst3
  go_wp2_with fail
  clear hD
  refine (below_any 4 _ B a len cap zs st3 HC3.out).mono ?_
  rintro e w3 ⟨rfl, hc3, hg3⟩
  have HM3 := hide (HM.out.grown hg3 ⟨_, hc3⟩)
  clear hc3 hg3 HM HC3
  generalize lV zs 4 st3 = cn at *
  have f4 := HM3.out.free 4
  have HM4 := hide (HM3.out.setCnt cn)
  obtain ⟨x0, x1, x2, x3, x4, x5⟩ := HM3.out.cells
  obtain ⟨st4, hst4⟩ := HM4.out.cur
  have HC4 := hide hst4
  clear hst4
  go_wp2_with fail
  clear x0 x1 x2 x3 x4 x5 f4
  refine (below_any 99999 _ B a len cap zs st4 HC4.out).mono ?_
  rintro e w5 ⟨rfl, hc5, hg5⟩
  have HM5 := hide (HM4.out.grown hg5 ⟨_, hc5⟩)
  clear hc5 hg5 HM4 HC4 HM3
  generalize lV zs 99999 st4 = z0 at *
  have hB5 := HM5.out.cur.lt
  have HM6 := hide (HM5.out.later ((Below.refl _ _).alloc (Nat.le_refl _) (.cells #[.int .i64 0, .int .i64 7, .int .i64 4294967295, .int .i64 z0] 3)))
  have HP := hide (pickInt_any [0, 7, 4294967295, z0] w5.heap.size (by simp) (by simp) (w5.alloc (.cells #[.int .i64 0, .int .i64 7, .int .i64 4294967295, .int .i64 z0] 3)) B a len cap zs HM6.out.cur (by omega) (row_ints w5 [0, 7, 4294967295, z0]))
  clear HM5
  go_wp2_with fail
  refine HP.out.mono ?_
  rintro e w7 ⟨⟨z, hz, rfl⟩, hc7, hg7⟩
  have HM7 := hide (HM6.out.grown hg7 hc7)
  clear hz hc7 hg7 HM6 HP hB5
  have f5 := HM7.out.free 5
  have HM8 := hide (HM7.out.setSum z)
  have HD := hide (HM8.out.done (.int .i64 (1 + x)) (.int .i64 (1 + y)) (.string ⟨#[]⟩) (.string ⟨#[]⟩) (.int .i64 cn) (.int .i64 z))
  obtain ⟨x0, x1, x2, x3, x4, x5⟩ := HM7.out.cells
  have g0 := HM7.out.resFree 0
  have g1 := HM7.out.resFree 1
  have g2 := HM7.out.resFree 2
  have g3 := HM7.out.resFree 3
  have g4 := HM7.out.resFree 4
  have g5 := HM7.out.resFree 5
  obtain ⟨y0, y1, y2, y3, y4, y5⟩ := HM7.out.resCells
  have hlo := HM7.out.lo
  have hne : w.heap.size ≠ D := by omega
  clear HM7 HM8
  go_wp2
  refine bodyPost_ret (v := .agg #[.int .i64 (1 + x), .int .i64 (1 + y), .string ⟨#[]⟩, .string ⟨#[]⟩, .int .i64 cn, .int .i64 z]) (by simp [results, Tryd.results77, go_sem, *]) rfl ⟨⟨⟨(1 + x), (1 + y), ⟨#[]⟩, ⟨#[]⟩, cn, z⟩, Nat.zero_le _, Nat.zero_le _, rfl⟩, HD.out.1, HD.out.2⟩

end Go.Proofs.YtkcjlalkniaapaaDoor
