/-
  spec.ReadRec: the record of a text, or none.
-/
import Derived.Test.YtkcjlalkniaapaaDoorReadPlain
import Derived.Test.YtkcjlalkniaapaaDoorShowSpec
namespace Go.Proofs.YtkcjlalkniaapaaDoor
open Go.RowKit
open Plain

/-- Block D, which W0 does not have, holds this record; what was there in W0 is untouched. -/
structure RvAt (W0 : World) (D : Nat) (k b : Int) (key val : ByteArray) (c s : Int) (W : World) : Prop where
  row : W.heap[D]? = some (.cells #[.int .i64 k, .int .i64 b, .string key, .string val, .int .i64 c, .int .i64 s] 33 (0, 0))
  new : W0.heap.size ≤ D
  bel : Below W0.heap.size W0 W
theorem RvAt.later {W0 : World} {D : Nat} {k b : Int} {key val : ByteArray} {c s : Int} {W W' : World} (h : RvAt W0 D k b key val c s W) (hb : Below W.heap.size W W') : RvAt W0 D k b key val c s W' :=
  ⟨(hb.block _ (lt_of_block h.row)).trans h.row, h.new, h.bel.trans (hb.mono h.bel.size)⟩
theorem RvAt.cells {W0 : World} {D : Nat} {k b : Int} {key val : ByteArray} {c s : Int} {W : World} (h : RvAt W0 D k b key val c s W) :
    W.cell? ⟨D, 0, none⟩ = some (.int .i64 k) ∧ W.cell? ⟨D, 1, none⟩ = some (.int .i64 b) ∧ W.cell? ⟨D, 2, none⟩ = some (.string key) ∧ W.cell? ⟨D, 3, none⟩ = some (.string val) ∧ W.cell? ⟨D, 4, none⟩ = some (.int .i64 c) ∧ W.cell? ⟨D, 5, none⟩ = some (.int .i64 s) := by
  refine ⟨?_, ?_, ?_, ?_, ?_, ?_⟩ <;> (rw [cell_of_row W D _ _ _ _ h.row]; rfl)
theorem RvAt.free {W0 : World} {D : Nat} {k b : Int} {key val : ByteArray} {c s : Int} {W : World} (h : RvAt W0 D k b key val c s W) (j : Nat) : W.frozen? ⟨D, j, none⟩ = false := by simp [World.frozen?, h.row]
theorem RvAt.setKey {W0 : World} {D : Nat} {k b : Int} {key val : ByteArray} {c s : Int} {W : World} (h : RvAt W0 D k b key val c s W) (x : ByteArray) : RvAt W0 D k b x val c s (W.setCell ⟨D, 2, none⟩ (.string x)) := by
  rw [setCell_eq_setRow W D 2 _ _ _ _ h.row]
  exact ⟨setRow_heap W D _ _ _ _ h.row, h.new, below_setRow h.bel h.new _⟩
theorem RvAt.setVal {W0 : World} {D : Nat} {k b : Int} {key val : ByteArray} {c s : Int} {W : World} (h : RvAt W0 D k b key val c s W) (x : ByteArray) : RvAt W0 D k b key x c s (W.setCell ⟨D, 3, none⟩ (.string x)) := by
  rw [setCell_eq_setRow W D 3 _ _ _ _ h.row]
  exact ⟨setRow_heap W D _ _ _ _ h.row, h.new, below_setRow h.bel h.new _⟩
theorem RvAt.setCnt {W0 : World} {D : Nat} {k b : Int} {key val : ByteArray} {c s : Int} {W : World} (h : RvAt W0 D k b key val c s W) (x : Int) : RvAt W0 D k b key val x s (W.setCell ⟨D, 4, none⟩ (.int .i64 x)) := by
  rw [setCell_eq_setRow W D 4 _ _ _ _ h.row]
  exact ⟨setRow_heap W D _ _ _ _ h.row, h.new, below_setRow h.bel h.new _⟩
theorem RvAt.setSum {W0 : World} {D : Nat} {k b : Int} {key val : ByteArray} {c s : Int} {W : World} (h : RvAt W0 D k b key val c s W) (x : Int) : RvAt W0 D k b key val c x (W.setCell ⟨D, 5, none⟩ (.int .i64 x)) := by
  rw [setCell_eq_setRow W D 5 _ _ _ _ h.row]
  exact ⟨setRow_heap W D _ _ _ _ h.row, h.new, below_setRow h.bel h.new _⟩
theorem RvAt.start {W0 W : World} (hb : Below W0.heap.size W0 W) (k b : Int) (key val : ByteArray) (c s : Int) : RvAt W0 W.heap.size k b key val c s (W.alloc (.cells #[.int .i64 k, .int .i64 b, .string key, .string val, .int .i64 c, .int .i64 s] 33)) :=
  ⟨heap_alloc_new W _, hb.size, hb.alloc hb.size _⟩

set_option maxRecDepth 100000 in
set_option maxHeartbeats 4000000 in
theorem sread_1_yes (s s1 s2 S : ByteArray) (a m b : Nat) (key val left left2 : ByteArray) (o1 o2 : Bool) (hs : s.size ≤ 1048576) (ha : a ≤ s.size) (hab : a + b ≤ s.size) (HN : Hid (s.extract a s.size = s1)) (HE : Hid (s.extract (a + b) s.size = s2)) (h1 : ((a : Int) == 0) = false) (h2 : ((b : Int) == 0) = false) (h0 : ¬ s.size = 0)
    (HR : Hid (Ans 47 #[.string s] (.tuple #[.int .i64 1, .int .i64 a]))) (HR2 : Hid (Ans 47 #[.string s1] (.tuple #[.int .i64 m, .int .i64 b]))) (HK : Hid (Ans 68 #[.string s2] (.tuple #[.string key, .string left, .bool o1]))) (HL : Hid (Ans 68 #[.string left] (.tuple #[.string val, .string left2, .bool o2])))
    (HSH : Hid (Ans 52 #[.agg #[.int .i64 1, .int .i64 m, .string key, .string val, .int .i64 0, .int .i64 0]] (.string S))) (hE : (S.toList == s.toList) = true) (w : World) :
    Calls Tryd.prog 42 #[.string s] w fun e w' => e = .returned (.tuple #[.agg #[.int .i64 1, .int .i64 m, .string key, .string val, .int .i64 0, .int .i64 0], .bool true]) ∧ Below w.heap.size w w' := by
  obtain ⟨W0, hW⟩ : ∃ W0, W0 = w.alloc (.cells #[.int .i64 0, .int .i64 0, .string ⟨#[]⟩, .string ⟨#[]⟩, .int .i64 0, .int .i64 0] 33) := ⟨_, rfl⟩
  have HRC := hide (fun W h => res_cells w W0 W hW h)
  have t0 := not_empty h0
  have t1 := nil_ne h0
  clear h0
  go_enter Tryd.func42, Tryd.ntmps42
  go_wp2_with fail
  rw [← hW]
  clear hW
  refine (HR.out _).mono ?_
  rintro e w1 ⟨rfl, hb1⟩
  have HB1 := hide hb1
  clear hb1 HR
  go_wp2_with fail
  rw [HN.out]
  refine (HR2.out _).mono ?_
  rintro e w2 ⟨rfl, hb2⟩
  have HV2 := hide (RvAt.start (HB1.out.trans (hb2.mono HB1.out.size)) 1 m ⟨#[]⟩ ⟨#[]⟩ 0 0)
  obtain ⟨D, hD⟩ : ∃ D, w2.heap.size = D := ⟨_, rfl⟩
  rw [hD] at HV2
  clear hb2 HB1 HR2
  go_wp2_with fail
  rw [HE.out]
  clear hD
  refine (HK.out _).mono ?_
  rintro e w3 ⟨rfl, hb3⟩
  have HV3 := hide (HV2.out.later hb3)
  clear HV2 hb3 HK
  go_wp2_with fail
  refine (HL.out _).mono ?_
  rintro e w4 ⟨rfl, hb4⟩
  have HV4 := hide (HV3.out.later hb4)
  clear HV3 hb4 HL
  obtain ⟨x0, x1, x2, x3, x4, x5⟩ := HV4.out.cells
  have f2 := HV4.out.free 2
  have f3 := HV4.out.free 3
  have HV4b := hide ((HV4.out.setKey key).setVal val)
  clear HV4
  go_wp2_with fail
  refine (HSH.out _).mono ?_
  rintro e w5 ⟨rfl, hb5⟩
  have HV5 := hide (HV4b.out.later hb5)
  clear HV4b hb5 HSH x0 x1 x2 x3 x4 x5
  obtain ⟨x0, x1, x2, x3, x4, x5⟩ := HV5.out.cells
  obtain ⟨hb6, hf6, hrow⟩ := HRC.out w5 HV5.out.bel
  have HB6 := hide hb6
  have g0 := hf6 0
  have g1 := hf6 1
  have g2 := hf6 2
  have g3 := hf6 3
  have g4 := hf6 4
  have g5 := hf6 5
  have y0 : w5.cell? ⟨w.heap.size, 0, none⟩ = _ := cell_of_row w5 _ 0 _ _ _ hrow
  have y1 : w5.cell? ⟨w.heap.size, 1, none⟩ = _ := cell_of_row w5 _ 1 _ _ _ hrow
  have y2 : w5.cell? ⟨w.heap.size, 2, none⟩ = _ := cell_of_row w5 _ 2 _ _ _ hrow
  have y3 : w5.cell? ⟨w.heap.size, 3, none⟩ = _ := cell_of_row w5 _ 3 _ _ _ hrow
  have y4 : w5.cell? ⟨w.heap.size, 4, none⟩ = _ := cell_of_row w5 _ 4 _ _ _ hrow
  have y5 : w5.cell? ⟨w.heap.size, 5, none⟩ = _ := cell_of_row w5 _ 5 _ _ _ hrow
  clear hb6 hf6 hrow HRC
  clear HV5
  go_wp2
  refine bodyPost_ret (v := .tuple #[.agg #[.int .i64 1, .int .i64 m, .string key, .string val, .int .i64 0, .int .i64 0], .bool true]) (by simp [results, Tryd.results42, go_sem, *]) rfl ⟨rfl, ?_⟩
  iterate 6 (refine Below.setCell ?_ (by exact Nat.le_refl _) _)
  exact HB6.out

set_option maxRecDepth 100000 in
set_option maxHeartbeats 4000000 in
theorem sread_1_no (s s1 s2 S : ByteArray) (a m b : Nat) (key val left left2 : ByteArray) (o1 o2 : Bool) (hs : s.size ≤ 1048576) (ha : a ≤ s.size) (hab : a + b ≤ s.size) (HN : Hid (s.extract a s.size = s1)) (HE : Hid (s.extract (a + b) s.size = s2)) (h1 : ((a : Int) == 0) = false) (h2 : ((b : Int) == 0) = false) (h0 : ¬ s.size = 0)
    (HR : Hid (Ans 47 #[.string s] (.tuple #[.int .i64 1, .int .i64 a]))) (HR2 : Hid (Ans 47 #[.string s1] (.tuple #[.int .i64 m, .int .i64 b]))) (HK : Hid (Ans 68 #[.string s2] (.tuple #[.string key, .string left, .bool o1]))) (HL : Hid (Ans 68 #[.string left] (.tuple #[.string val, .string left2, .bool o2])))
    (HSH : Hid (Ans 52 #[.agg #[.int .i64 1, .int .i64 m, .string key, .string val, .int .i64 0, .int .i64 0]] (.string S))) (hE : (S.toList == s.toList) = false) (w : World) :
    Calls Tryd.prog 42 #[.string s] w fun e w' => e = .returned (.tuple #[.agg #[.int .i64 0, .int .i64 0, .string ⟨#[]⟩, .string ⟨#[]⟩, .int .i64 0, .int .i64 0], .bool false]) ∧ Below w.heap.size w w' := by
  obtain ⟨W0, hW⟩ : ∃ W0, W0 = w.alloc (.cells #[.int .i64 0, .int .i64 0, .string ⟨#[]⟩, .string ⟨#[]⟩, .int .i64 0, .int .i64 0] 33) := ⟨_, rfl⟩
  have HRC := hide (fun W h => res_cells w W0 W hW h)
  have t0 := not_empty h0
  have t1 := nil_ne h0
  clear h0
  go_enter Tryd.func42, Tryd.ntmps42
  go_wp2_with fail
  rw [← hW]
  clear hW
  refine (HR.out _).mono ?_
  rintro e w1 ⟨rfl, hb1⟩
  have HB1 := hide hb1
  clear hb1 HR
  go_wp2_with fail
  rw [HN.out]
  refine (HR2.out _).mono ?_
  rintro e w2 ⟨rfl, hb2⟩
  have HV2 := hide (RvAt.start (HB1.out.trans (hb2.mono HB1.out.size)) 1 m ⟨#[]⟩ ⟨#[]⟩ 0 0)
  obtain ⟨D, hD⟩ : ∃ D, w2.heap.size = D := ⟨_, rfl⟩
  rw [hD] at HV2
  clear hb2 HB1 HR2
  go_wp2_with fail
  rw [HE.out]
  clear hD
  refine (HK.out _).mono ?_
  rintro e w3 ⟨rfl, hb3⟩
  have HV3 := hide (HV2.out.later hb3)
  clear HV2 hb3 HK
  go_wp2_with fail
  refine (HL.out _).mono ?_
  rintro e w4 ⟨rfl, hb4⟩
  have HV4 := hide (HV3.out.later hb4)
  clear HV3 hb4 HL
  obtain ⟨x0, x1, x2, x3, x4, x5⟩ := HV4.out.cells
  have f2 := HV4.out.free 2
  have f3 := HV4.out.free 3
  have HV4b := hide ((HV4.out.setKey key).setVal val)
  clear HV4
  go_wp2_with fail
  refine (HSH.out _).mono ?_
  rintro e w5 ⟨rfl, hb5⟩
  have HV5 := hide (HV4b.out.later hb5)
  clear HV4b hb5 HSH x0 x1 x2 x3 x4 x5
  obtain ⟨x0, x1, x2, x3, x4, x5⟩ := HV5.out.cells
  obtain ⟨hb6, hf6, hrow⟩ := HRC.out w5 HV5.out.bel
  have HB6 := hide hb6
  have g0 := hf6 0
  have g1 := hf6 1
  have g2 := hf6 2
  have g3 := hf6 3
  have g4 := hf6 4
  have g5 := hf6 5
  have y0 : w5.cell? ⟨w.heap.size, 0, none⟩ = _ := cell_of_row w5 _ 0 _ _ _ hrow
  have y1 : w5.cell? ⟨w.heap.size, 1, none⟩ = _ := cell_of_row w5 _ 1 _ _ _ hrow
  have y2 : w5.cell? ⟨w.heap.size, 2, none⟩ = _ := cell_of_row w5 _ 2 _ _ _ hrow
  have y3 : w5.cell? ⟨w.heap.size, 3, none⟩ = _ := cell_of_row w5 _ 3 _ _ _ hrow
  have y4 : w5.cell? ⟨w.heap.size, 4, none⟩ = _ := cell_of_row w5 _ 4 _ _ _ hrow
  have y5 : w5.cell? ⟨w.heap.size, 5, none⟩ = _ := cell_of_row w5 _ 5 _ _ _ hrow
  clear hb6 hf6 hrow HRC
  clear HV5
  go_wp2
  refine bodyPost_ret (v := .tuple #[.agg #[.int .i64 0, .int .i64 0, .string ⟨#[]⟩, .string ⟨#[]⟩, .int .i64 0, .int .i64 0], .bool false]) (by simp [results, Tryd.results42, go_sem, *]) rfl ⟨rfl, ?_⟩
  iterate 6 (refine Below.setCell ?_ (by exact Nat.le_refl _) _)
  exact HB6.out

end Go.Proofs.YtkcjlalkniaapaaDoor
