/-
  spec.ReadRec: the record of a text, or none. spec.ReadRec: the record of a text, or none. spec.ReadRec: the record of a text, or none. spec.ReadRec: the record of a text, or none. spec.ReadRec at every text: the right record of which ShowRec makes it, or none. Rows of records and of spots.
-/
import Derived.Test.YtimpokbcfjgdaaaGreatDoorHG05
import Derived.Test.YtimpokbcfjgdaaaGreatDoorHMShowSpec
import Derived.Test.YtimpokbcfjgdaaaGreatDoorHG00
namespace Go.Proofs.YtimpokbcfjgdaaaGreatDoor
open Go.RowKit
open Plain

/-- Block D, which W0 does not have, holds this record; what was there in W0 is untouched. -/
structure RvAt (W0 : World) (D : Nat) (k b : Int) (key val : ByteArray) (c s : Int) (W : World) : Prop where
  row : W.heap[D]? = some (.cells #[.int .i64 k, .int .i64 b, .string key, .string val, .int .i64 c, .int .i64 s] 41 (0, 0))
  new : W0.heap.size ≤ D
  bel : Below W0.heap.size W0 W
theorem RvAt.later {W0 : World} {D : Nat} {k b : Int} {key val : ByteArray} {c s : Int} {W W' : World} (h : RvAt W0 D k b key val c s W) (hb : Below W.heap.size W W') : RvAt W0 D k b key val c s W' :=
  ⟨(hb.block _ (lt_of_block h.row)).trans h.row, h.new, h.bel.trans (hb.mono h.bel.size)⟩
theorem RvAt.cells {W0 : World} {D : Nat} {k b : Int} {key val : ByteArray} {c s : Int} {W : World} (h : RvAt W0 D k b key val c s W) :
    W.cell? ⟨D, 0, none⟩ = some (.int .i64 k) ∧ W.cell? ⟨D, 1, none⟩ = some (.int .i64 b) ∧ W.cell? ⟨D, 2, none⟩ = some (.string key) ∧ W.cell? ⟨D, 3, none⟩ = some (.string val) ∧ W.cell? ⟨D, 4, none⟩ = some (.int .i64 c) ∧ W.cell? ⟨D, 5, none⟩ = some (.int .i64 s) := by
  refine ⟨?_, ?_, ?_, ?_, ?_, ?_⟩ <;> (rw [cell_of_row W D _ _ _ _ h.row]; rfl)
theorem RvAt.free {W0 : World} {D : Nat} {k b : Int} {key val : ByteArray} {c s : Int} {W : World} (h : RvAt W0 D k b key val c s W) (j : Nat) : W.frozen? ⟨D, j, none⟩ = false := by simp [World.frozen?, h.row]
theorem RvAt.setKey {W0 : World} {D : Nat} {k b : Int} {key val : ByteArray} {c s : Int} {W : World} (h : RvAt W0 D k b key val c s W) (x : ByteArray) : RvAt W0 D k b x val c s (W.setCell ⟨D, 2, none⟩ (.string x)) := by
  rw [setCell_eq_setRow W D 2 _ _ _ _ h.row]
  exact ⟨setRow_heap W D _ _ _ _ h.row, h.new, below_setRow h.bel h.new _⟩
theorem RvAt.setVal {W0 : World} {D : Nat} {k b : Int} {key val : ByteArray} {c s : Int} {W : World} (h : RvAt W0 D k b key val c s W) (x : ByteArray) : RvAt W0 D k b key x c s (W.setCell ⟨D, 3, none⟩ (.string x)) := by
  rw [setCell_eq_setRow W D 3 _ _ _ _ h.row]
  exact ⟨setRow_heap W D _ _ _ _ h.row, h.new, below_setRow h.bel h.new _⟩
theorem RvAt.setCnt {W0 : World} {D : Nat} {k b : Int} {key val : ByteArray} {c s : Int} {W : World} (h : RvAt W0 D k b key val c s W) (x : Int) : RvAt W0 D k b key val x s (W.setCell ⟨D, 4, none⟩ (.int .i64 x)) := by
  rw [setCell_eq_setRow W D 4 _ _ _ _ h.row]
  exact ⟨setRow_heap W D _ _ _ _ h.row, h.new, below_setRow h.bel h.new _⟩
theorem RvAt.setSum {W0 : World} {D : Nat} {k b : Int} {key val : ByteArray} {c s : Int} {W : World} (h : RvAt W0 D k b key val c s W) (x : Int) : RvAt W0 D k b key val c x (W.setCell ⟨D, 5, none⟩ (.int .i64 x)) := by
  rw [setCell_eq_setRow W D 5 _ _ _ _ h.row]
  exact ⟨setRow_heap W D _ _ _ _ h.row, h.new, below_setRow h.bel h.new _⟩
theorem RvAt.start {W0 W : World} (hb : Below W0.heap.size W0 W) (k b : Int) (key val : ByteArray) (c s : Int) : RvAt W0 W.heap.size k b key val c s (W.alloc (.cells #[.int .i64 k, .int .i64 b, .string key, .string val, .int .i64 c, .int .i64 s] 41)) :=
  ⟨heap_alloc_new W _, hb.size, hb.alloc hb.size _⟩

set_option maxRecDepth 100000 in
set_option maxHeartbeats 4000000 in
theorem sread_1_yes (s s1 s2 S : ByteArray) (a m b : Nat) (key val left left2 : ByteArray) (o1 o2 : Bool) (hs : s.size ≤ 1048576) (ha : a ≤ s.size) (hab : a + b ≤ s.size) (HN : Hid (s.extract a s.size = s1)) (HE : Hid (s.extract (a + b) s.size = s2)) (h1 : ((a : Int) == 0) = false) (h2 : ((b : Int) == 0) = false) (h0 : ¬ s.size = 0)
    (HR : Hid (Ans 88 #[.string s] (.tuple #[.int .i64 1, .int .i64 a]))) (HR2 : Hid (Ans 88 #[.string s1] (.tuple #[.int .i64 m, .int .i64 b]))) (HK : Hid (Ans 89 #[.string s2] (.tuple #[.string key, .string left, .bool o1]))) (HL : Hid (Ans 89 #[.string left] (.tuple #[.string val, .string left2, .bool o2])))
    (HSH : Hid (Ans 76 #[.agg #[.int .i64 1, .int .i64 m, .string key, .string val, .int .i64 0, .int .i64 0]] (.string S))) (hE : (S.toList == s.toList) = true) (w : World) :
    Calls Tryz.prog 51 #[.string s] w fun e w' => e = .returned (.tuple #[.agg #[.int .i64 1, .int .i64 m, .string key, .string val, .int .i64 0, .int .i64 0], .bool true]) ∧ Below w.heap.size w w' := by
  obtain ⟨W0, hW⟩ : ∃ W0, W0 = w.alloc (.cells #[.int .i64 0, .int .i64 0, .string ⟨#[]⟩, .string ⟨#[]⟩, .int .i64 0, .int .i64 0] 41) := ⟨_, rfl⟩
  have HRC := hide (fun W h => res_cells w W0 W hW h)
  have t0 := not_empty h0
  have t1 := nil_ne h0
  clear h0
  go_enter Tryz.func51, Tryz.ntmps51
  go_wp2_with fail
  rw [← hW]
  clear hW
  refine (HR.out _).mono ?_
  rintro e w1 ⟨rfl, hb1⟩
  have HB1 := hide hb1
  clear hb1 HR
  go_wp2_with fail
  rw [HN.out]
  refine (HR2.out _).mono ?_
  rintro e w2 ⟨rfl, hb2⟩
  have HV2 := hide (RvAt.start (HB1.out.trans (hb2.mono HB1.out.size)) 1 m ⟨#[]⟩ ⟨#[]⟩ 0 0)
  obtain ⟨D, hD⟩ : ∃ D, w2.heap.size = D := ⟨_, rfl⟩
  rw [hD] at HV2
  clear hb2 HB1 HR2
  go_wp2_with fail
  rw [HE.out]
  clear hD
  refine (HK.out _).mono ?_
  rintro e w3 ⟨rfl, hb3⟩
  have HV3 := hide (HV2.out.later hb3)
  clear HV2 hb3 HK
  go_wp2_with fail
  refine (HL.out _).mono ?_
  rintro e w4 ⟨rfl, hb4⟩
  have HV4 := hide (HV3.out.later hb4)
  clear HV3 hb4 HL
  obtain ⟨x0, x1, x2, x3, x4, x5⟩ := HV4.out.cells
  have f2 := HV4.out.free 2
  have f3 := HV4.out.free 3
  have HV4b := hide ((HV4.out.setKey key).setVal val)
  clear HV4
  go_wp2_with fail
  refine (HSH.out _).mono ?_
  rintro e w5 ⟨rfl, hb5⟩
  have HV5 := hide (HV4b.out.later hb5)
  clear HV4b hb5 HSH x0 x1 x2 x3 x4 x5
  obtain ⟨x0, x1, x2, x3, x4, x5⟩ := HV5.out.cells
  obtain ⟨hb6, hf6, hrow⟩ := HRC.out w5 HV5.out.bel
  have HB6 := hide hb6
  have g0 := hf6 0
  have g1 := hf6 1
  have g2 := hf6 2
  have g3 := hf6 3
  have g4 := hf6 4
  have g5 := hf6 5
  have y0 : w5.cell? ⟨w.heap.size, 0, none⟩ = _ := cell_of_row w5 _ 0 _ _ _ hrow
  have y1 : w5.cell? ⟨w.heap.size, 1, none⟩ = _ := cell_of_row w5 _ 1 _ _ _ hrow
  have y2 : w5.cell? ⟨w.heap.size, 2, none⟩ = _ := cell_of_row w5 _ 2 _ _ _ hrow
  have y3 : w5.cell? ⟨w.heap.size, 3, none⟩ = _ := cell_of_row w5 _ 3 _ _ _ hrow
  have y4 : w5.cell? ⟨w.heap.size, 4, none⟩ = _ := cell_of_row w5 _ 4 _ _ _ hrow
  have y5 : w5.cell? ⟨w.heap.size, 5, none⟩ = _ := cell_of_row w5 _ 5 _ _ _ hrow
  clear hb6 hf6 hrow HRC
  clear HV5
  go_wp2
  refine bodyPost_ret (v := .tuple #[.agg #[.int .i64 1, .int .i64 m, .string key, .string val, .int .i64 0, .int .i64 0], .bool true]) (by simp [results, Tryz.results51, go_sem, *]) rfl ⟨rfl, ?_⟩
  iterate 6 (refine Below.setCell ?_ (by exact Nat.le_refl _) _)
  exact HB6.out

set_option maxRecDepth 100000 in
set_option maxHeartbeats 4000000 in
theorem sread_1_no (s s1 s2 S : ByteArray) (a m b : Nat) (key val left left2 : ByteArray) (o1 o2 : Bool) (hs : s.size ≤ 1048576) (ha : a ≤ s.size) (hab : a + b ≤ s.size) (HN : Hid (s.extract a s.size = s1)) (HE : Hid (s.extract (a + b) s.size = s2)) (h1 : ((a : Int) == 0) = false) (h2 : ((b : Int) == 0) = false) (h0 : ¬ s.size = 0)
    (HR : Hid (Ans 88 #[.string s] (.tuple #[.int .i64 1, .int .i64 a]))) (HR2 : Hid (Ans 88 #[.string s1] (.tuple #[.int .i64 m, .int .i64 b]))) (HK : Hid (Ans 89 #[.string s2] (.tuple #[.string key, .string left, .bool o1]))) (HL : Hid (Ans 89 #[.string left] (.tuple #[.string val, .string left2, .bool o2])))
    (HSH : Hid (Ans 76 #[.agg #[.int .i64 1, .int .i64 m, .string key, .string val, .int .i64 0, .int .i64 0]] (.string S))) (hE : (S.toList == s.toList) = false) (w : World) :
    Calls Tryz.prog 51 #[.string s] w fun e w' => e = .returned (.tuple #[.agg #[.int .i64 0, .int .i64 0, .string ⟨#[]⟩, .string ⟨#[]⟩, .int .i64 0, .int .i64 0], .bool false]) ∧ Below w.heap.size w w' := by
  obtain ⟨W0, hW⟩ : ∃ W0, W0 = w.alloc (.cells #[.int .i64 0, .int .i64 0, .string ⟨#[]⟩, .string ⟨#[]⟩, .int .i64 0, .int .i64 0] 41) := ⟨_, rfl⟩
  have HRC := hide (fun W h => res_cells w W0 W hW h)
  have t0 := not_empty h0
  have t1 := nil_ne h0
  clear h0
  go_enter Tryz.func51, Tryz.ntmps51
  go_wp2_with fail
  rw [← hW]
  clear hW
  refine (HR.out _).mono ?_
  rintro e w1 ⟨rfl, hb1⟩
  have HB1 := hide hb1
  clear hb1 HR
  go_wp2_with fail
  rw [HN.out]
  refine (HR2.out _).mono ?_
  rintro e w2 ⟨rfl, hb2⟩
  have HV2 := hide (RvAt.start (HB1.out.trans (hb2.mono HB1.out.size)) 1 m ⟨#[]⟩ ⟨#[]⟩ 0 0)
  obtain ⟨D, hD⟩ : ∃ D, w2.heap.size = D := ⟨_, rfl⟩
  rw [hD] at HV2
  clear hb2 HB1 HR2
  go_wp2_with fail
  rw [HE.out]
  clear hD
  refine (HK.out _).mono ?_
  rintro e w3 ⟨rfl, hb3⟩
  have HV3 := hide (HV2.out.later hb3)
  clear HV2 hb3 HK
  go_wp2_with fail
  refine (HL.out _).mono ?_
  rintro e w4 ⟨rfl, hb4⟩
  have HV4 := hide (HV3.out.later hb4)
  clear HV3 hb4 HL
  obtain ⟨x0, x1, x2, x3, x4, x5⟩ := HV4.out.cells
  have f2 := HV4.out.free 2
  have f3 := HV4.out.free 3
  have HV4b := hide ((HV4.out.setKey key).setVal val)
  clear HV4
  go_wp2_with fail
  refine (HSH.out _).mono ?_
  rintro e w5 ⟨rfl, hb5⟩
  have HV5 := hide (HV4b.out.later hb5)
  clear HV4b hb5 HSH x0 x1 x2 x3 x4 x5
  obtain ⟨x0, x1, x2, x3, x4, x5⟩ := HV5.out.cells
  obtain ⟨hb6, hf6, hrow⟩ := HRC.out w5 HV5.out.bel
  have HB6 := hide hb6
  have g0 := hf6 0
  have g1 := hf6 1
  have g2 := hf6 2
  have g3 := hf6 3
  have g4 := hf6 4
  have g5 := hf6 5
  have y0 : w5.cell? ⟨w.heap.size, 0, none⟩ = _ := cell_of_row w5 _ 0 _ _ _ hrow
  have y1 : w5.cell? ⟨w.heap.size, 1, none⟩ = _ := cell_of_row w5 _ 1 _ _ _ hrow
  have y2 : w5.cell? ⟨w.heap.size, 2, none⟩ = _ := cell_of_row w5 _ 2 _ _ _ hrow
  have y3 : w5.cell? ⟨w.heap.size, 3, none⟩ = _ := cell_of_row w5 _ 3 _ _ _ hrow
  have y4 : w5.cell? ⟨w.heap.size, 4, none⟩ = _ := cell_of_row w5 _ 4 _ _ _ hrow
  have y5 : w5.cell? ⟨w.heap.size, 5, none⟩ = _ := cell_of_row w5 _ 5 _ _ _ hrow
  clear hb6 hf6 hrow HRC
  clear HV5
  go_wp2
  refine bodyPost_ret (v := .tuple #[.agg #[.int .i64 0, .int .i64 0, .string ⟨#[]⟩, .string ⟨#[]⟩, .int .i64 0, .int .i64 0], .bool false]) (by simp [results, Tryz.results51, go_sem, *]) rfl ⟨rfl, ?_⟩
  iterate 6 (refine Below.setCell ?_ (by exact Nat.le_refl _) _)
  exact HB6.out

end Go.Proofs.YtimpokbcfjgdaaaGreatDoor
namespace Go.Proofs.YtimpokbcfjgdaaaGreatDoor
open Go.RowKit
open Plain


set_option maxRecDepth 100000 in
set_option maxHeartbeats 4000000 in
theorem sread_4_yes (s s1 s2 S : ByteArray) (a m b : Nat) (key val left left2 : ByteArray) (o1 o2 : Bool) (hs : s.size ≤ 1048576) (ha : a ≤ s.size) (hab : a + b ≤ s.size) (HN : Hid (s.extract a s.size = s1)) (HE : Hid (s.extract (a + b) s.size = s2)) (h1 : ((a : Int) == 0) = false) (h2 : ((b : Int) == 0) = false) (h0 : ¬ s.size = 0)
    (HR : Hid (Ans 88 #[.string s] (.tuple #[.int .i64 4, .int .i64 a]))) (HR2 : Hid (Ans 88 #[.string s1] (.tuple #[.int .i64 m, .int .i64 b]))) (HK : Hid (Ans 89 #[.string s2] (.tuple #[.string key, .string left, .bool o1]))) (HL : Hid (Ans 89 #[.string left] (.tuple #[.string val, .string left2, .bool o2])))
    (HSH : Hid (Ans 76 #[.agg #[.int .i64 4, .int .i64 m, .string key, .string val, .int .i64 0, .int .i64 0]] (.string S))) (hE : (S.toList == s.toList) = true) (w : World) :
    Calls Tryz.prog 51 #[.string s] w fun e w' => e = .returned (.tuple #[.agg #[.int .i64 4, .int .i64 m, .string key, .string val, .int .i64 0, .int .i64 0], .bool true]) ∧ Below w.heap.size w w' := by
  obtain ⟨W0, hW⟩ : ∃ W0, W0 = w.alloc (.cells #[.int .i64 0, .int .i64 0, .string ⟨#[]⟩, .string ⟨#[]⟩, .int .i64 0, .int .i64 0] 41) := ⟨_, rfl⟩
  have HRC := hide (fun W h => res_cells w W0 W hW h)
  have t0 := not_empty h0
  have t1 := nil_ne h0
  clear h0
  go_enter Tryz.func51, Tryz.ntmps51
  go_wp2_with fail
  rw [← hW]
  clear hW
  refine (HR.out _).mono ?_
  rintro e w1 ⟨rfl, hb1⟩
  have HB1 := hide hb1
  clear hb1 HR
  go_wp2_with fail
  rw [HN.out]
  refine (HR2.out _).mono ?_
  rintro e w2 ⟨rfl, hb2⟩
  have HV2 := hide (RvAt.start (HB1.out.trans (hb2.mono HB1.out.size)) 4 m ⟨#[]⟩ ⟨#[]⟩ 0 0)
  obtain ⟨D, hD⟩ : ∃ D, w2.heap.size = D := ⟨_, rfl⟩
  rw [hD] at HV2
  clear hb2 HB1 HR2
  go_wp2_with fail
  rw [HE.out]
  clear hD
  refine (HK.out _).mono ?_
  rintro e w3 ⟨rfl, hb3⟩
  have HV3 := hide (HV2.out.later hb3)
  clear HV2 hb3 HK
  go_wp2_with fail
  refine (HL.out _).mono ?_
  rintro e w4 ⟨rfl, hb4⟩
  have HV4 := hide (HV3.out.later hb4)
  clear HV3 hb4 HL
  obtain ⟨x0, x1, x2, x3, x4, x5⟩ := HV4.out.cells
  have f2 := HV4.out.free 2
  have f3 := HV4.out.free 3
  have HV4b := hide ((HV4.out.setKey key).setVal val)
  clear HV4
  go_wp2_with fail
  refine (HSH.out _).mono ?_
  rintro e w5 ⟨rfl, hb5⟩
  have HV5 := hide (HV4b.out.later hb5)
  clear HV4b hb5 HSH x0 x1 x2 x3 x4 x5
  obtain ⟨x0, x1, x2, x3, x4, x5⟩ := HV5.out.cells
  obtain ⟨hb6, hf6, hrow⟩ := HRC.out w5 HV5.out.bel
  have HB6 := hide hb6
  have g0 := hf6 0
  have g1 := hf6 1
  have g2 := hf6 2
  have g3 := hf6 3
  have g4 := hf6 4
  have g5 := hf6 5
  have y0 : w5.cell? ⟨w.heap.size, 0, none⟩ = _ := cell_of_row w5 _ 0 _ _ _ hrow
  have y1 : w5.cell? ⟨w.heap.size, 1, none⟩ = _ := cell_of_row w5 _ 1 _ _ _ hrow
  have y2 : w5.cell? ⟨w.heap.size, 2, none⟩ = _ := cell_of_row w5 _ 2 _ _ _ hrow
  have y3 : w5.cell? ⟨w.heap.size, 3, none⟩ = _ := cell_of_row w5 _ 3 _ _ _ hrow
  have y4 : w5.cell? ⟨w.heap.size, 4, none⟩ = _ := cell_of_row w5 _ 4 _ _ _ hrow
  have y5 : w5.cell? ⟨w.heap.size, 5, none⟩ = _ := cell_of_row w5 _ 5 _ _ _ hrow
  clear hb6 hf6 hrow HRC
  clear HV5
  go_wp2
  refine bodyPost_ret (v := .tuple #[.agg #[.int .i64 4, .int .i64 m, .string key, .string val, .int .i64 0, .int .i64 0], .bool true]) (by simp [results, Tryz.results51, go_sem, *]) rfl ⟨rfl, ?_⟩
  iterate 6 (refine Below.setCell ?_ (by exact Nat.le_refl _) _)
  exact HB6.out

set_option maxRecDepth 100000 in
set_option maxHeartbeats 4000000 in
theorem sread_4_no (s s1 s2 S : ByteArray) (a m b : Nat) (key val left left2 : ByteArray) (o1 o2 : Bool) (hs : s.size ≤ 1048576) (ha : a ≤ s.size) (hab : a + b ≤ s.size) (HN : Hid (s.extract a s.size = s1)) (HE : Hid (s.extract (a + b) s.size = s2)) (h1 : ((a : Int) == 0) = false) (h2 : ((b : Int) == 0) = false) (h0 : ¬ s.size = 0)
    (HR : Hid (Ans 88 #[.string s] (.tuple #[.int .i64 4, .int .i64 a]))) (HR2 : Hid (Ans 88 #[.string s1] (.tuple #[.int .i64 m, .int .i64 b]))) (HK : Hid (Ans 89 #[.string s2] (.tuple #[.string key, .string left, .bool o1]))) (HL : Hid (Ans 89 #[.string left] (.tuple #[.string val, .string left2, .bool o2])))
    (HSH : Hid (Ans 76 #[.agg #[.int .i64 4, .int .i64 m, .string key, .string val, .int .i64 0, .int .i64 0]] (.string S))) (hE : (S.toList == s.toList) = false) (w : World) :
    Calls Tryz.prog 51 #[.string s] w fun e w' => e = .returned (.tuple #[.agg #[.int .i64 0, .int .i64 0, .string ⟨#[]⟩, .string ⟨#[]⟩, .int .i64 0, .int .i64 0], .bool false]) ∧ Below w.heap.size w w' := by
  obtain ⟨W0, hW⟩ : ∃ W0, W0 = w.alloc (.cells #[.int .i64 0, .int .i64 0, .string ⟨#[]⟩, .string ⟨#[]⟩, .int .i64 0, .int .i64 0] 41) := ⟨_, rfl⟩
  have HRC := hide (fun W h => res_cells w W0 W hW h)
  have t0 := not_empty h0
  have t1 := nil_ne h0
  clear h0
  go_enter Tryz.func51, Tryz.ntmps51
  go_wp2_with fail
  rw [← hW]
  clear hW
  refine (HR.out _).mono ?_
  rintro e w1 ⟨rfl, hb1⟩
  have HB1 := hide hb1
  clear hb1 HR
  go_wp2_with fail
  rw [HN.out]
  refine (HR2.out _).mono ?_
  rintro e w2 ⟨rfl, hb2⟩
  have HV2 := hide (RvAt.start (HB1.out.trans (hb2.mono HB1.out.size)) 4 m ⟨#[]⟩ ⟨#[]⟩ 0 0)
  obtain ⟨D, hD⟩ : ∃ D, w2.heap.size = D := ⟨_, rfl⟩
  rw [hD] at HV2
  clear hb2 HB1 HR2
  go_wp2_with fail
  rw [HE.out]
  clear hD
  refine (HK.out _).mono ?_
  rintro e w3 ⟨rfl, hb3⟩
  have HV3 := hide (HV2.out.later hb3)
  clear HV2 hb3 HK
  go_wp2_with fail
  refine (HL.out _).mono ?_
  rintro e w4 ⟨rfl, hb4⟩
  have HV4 := hide (HV3.out.later hb4)
  clear HV3 hb4 HL
  obtain ⟨x0, x1, x2, x3, x4, x5⟩ := HV4.out.cells
  have f2 := HV4.out.free 2
  have f3 := HV4.out.free 3
  have HV4b := hide ((HV4.out.setKey key).setVal val)
  clear HV4
  go_wp2_with fail
  refine (HSH.out _).mono ?_
  rintro e w5 ⟨rfl, hb5⟩
  have HV5 := hide (HV4b.out.later hb5)
  clear HV4b hb5 HSH x0 x1 x2 x3 x4 x5
  obtain ⟨x0, x1, x2, x3, x4, x5⟩ := HV5.out.cells
  obtain ⟨hb6, hf6, hrow⟩ := HRC.out w5 HV5.out.bel
  have HB6 := hide hb6
  have g0 := hf6 0
  have g1 := hf6 1
  have g2 := hf6 2
  have g3 := hf6 3
  have g4 := hf6 4
  have g5 := hf6 5
  have y0 : w5.cell? ⟨w.heap.size, 0, none⟩ = _ := cell_of_row w5 _ 0 _ _ _ hrow
  have y1 : w5.cell? ⟨w.heap.size, 1, none⟩ = _ := cell_of_row w5 _ 1 _ _ _ hrow
  have y2 : w5.cell? ⟨w.heap.size, 2, none⟩ = _ := cell_of_row w5 _ 2 _ _ _ hrow
  have y3 : w5.cell? ⟨w.heap.size, 3, none⟩ = _ := cell_of_row w5 _ 3 _ _ _ hrow
  have y4 : w5.cell? ⟨w.heap.size, 4, none⟩ = _ := cell_of_row w5 _ 4 _ _ _ hrow
  have y5 : w5.cell? ⟨w.heap.size, 5, none⟩ = _ := cell_of_row w5 _ 5 _ _ _ hrow
  clear hb6 hf6 hrow HRC
  clear HV5
  go_wp2
  refine bodyPost_ret (v := .tuple #[.agg #[.int .i64 0, .int .i64 0, .string ⟨#[]⟩, .string ⟨#[]⟩, .int .i64 0, .int .i64 0], .bool false]) (by simp [results, Tryz.results51, go_sem, *]) rfl ⟨rfl, ?_⟩
  iterate 6 (refine Below.setCell ?_ (by exact Nat.le_refl _) _)
  exact HB6.out

end Go.Proofs.YtimpokbcfjgdaaaGreatDoor
namespace Go.Proofs.YtimpokbcfjgdaaaGreatDoor
open Go.RowKit
open Plain


set_option maxRecDepth 100000 in
set_option maxHeartbeats 4000000 in
theorem sread_2_yes (s s1 s2 S : ByteArray) (a m b : Nat) (key left : ByteArray) (o1 : Bool) (hs : s.size ≤ 1048576) (ha : a ≤ s.size) (hab : a + b ≤ s.size) (HN : Hid (s.extract a s.size = s1)) (HE : Hid (s.extract (a + b) s.size = s2)) (h1 : ((a : Int) == 0) = false) (h2 : ((b : Int) == 0) = false) (h0 : ¬ s.size = 0)
    (HR : Hid (Ans 88 #[.string s] (.tuple #[.int .i64 2, .int .i64 a]))) (HR2 : Hid (Ans 88 #[.string s1] (.tuple #[.int .i64 m, .int .i64 b]))) (HK : Hid (Ans 89 #[.string s2] (.tuple #[.string key, .string left, .bool o1])))
    (HSH : Hid (Ans 76 #[.agg #[.int .i64 2, .int .i64 m, .string key, .string ⟨#[]⟩, .int .i64 0, .int .i64 0]] (.string S))) (hE : (S.toList == s.toList) = true) (w : World) :
    Calls Tryz.prog 51 #[.string s] w fun e w' => e = .returned (.tuple #[.agg #[.int .i64 2, .int .i64 m, .string key, .string ⟨#[]⟩, .int .i64 0, .int .i64 0], .bool true]) ∧ Below w.heap.size w w' := by
  obtain ⟨W0, hW⟩ : ∃ W0, W0 = w.alloc (.cells #[.int .i64 0, .int .i64 0, .string ⟨#[]⟩, .string ⟨#[]⟩, .int .i64 0, .int .i64 0] 41) := ⟨_, rfl⟩
  have HRC := hide (fun W h => res_cells w W0 W hW h)
  have t0 := not_empty h0
  have t1 := nil_ne h0
  clear h0
  go_enter Tryz.func51, Tryz.ntmps51
  go_wp2_with fail
  rw [← hW]
  clear hW
  refine (HR.out _).mono ?_
  rintro e w1 ⟨rfl, hb1⟩
  have HB1 := hide hb1
  clear hb1 HR
  go_wp2_with fail
  rw [HN.out]
  refine (HR2.out _).mono ?_
  rintro e w2 ⟨rfl, hb2⟩
  have HV2 := hide (RvAt.start (HB1.out.trans (hb2.mono HB1.out.size)) 2 m ⟨#[]⟩ ⟨#[]⟩ 0 0)
  obtain ⟨D, hD⟩ : ∃ D, w2.heap.size = D := ⟨_, rfl⟩
  rw [hD] at HV2
  clear hb2 HB1 HR2
  go_wp2_with fail
  rw [HE.out]
  clear hD
  refine (HK.out _).mono ?_
  rintro e w4 ⟨rfl, hb4⟩
  have HV4 := hide (HV2.out.later hb4)
  clear HV2 hb4 HK
  obtain ⟨x0, x1, x2, x3, x4, x5⟩ := HV4.out.cells
  have f2 := HV4.out.free 2
  have HV4b := hide (HV4.out.setKey key)
  clear HV4
  go_wp2_with fail
  refine (HSH.out _).mono ?_
  rintro e w5 ⟨rfl, hb5⟩
  have HV5 := hide (HV4b.out.later hb5)
  clear HV4b hb5 HSH x0 x1 x2 x3 x4 x5
  obtain ⟨x0, x1, x2, x3, x4, x5⟩ := HV5.out.cells
  obtain ⟨hb6, hf6, hrow⟩ := HRC.out w5 HV5.out.bel
  have HB6 := hide hb6
  have g0 := hf6 0
  have g1 := hf6 1
  have g2 := hf6 2
  have g3 := hf6 3
  have g4 := hf6 4
  have g5 := hf6 5
  have y0 : w5.cell? ⟨w.heap.size, 0, none⟩ = _ := cell_of_row w5 _ 0 _ _ _ hrow
  have y1 : w5.cell? ⟨w.heap.size, 1, none⟩ = _ := cell_of_row w5 _ 1 _ _ _ hrow
  have y2 : w5.cell? ⟨w.heap.size, 2, none⟩ = _ := cell_of_row w5 _ 2 _ _ _ hrow
  have y3 : w5.cell? ⟨w.heap.size, 3, none⟩ = _ := cell_of_row w5 _ 3 _ _ _ hrow
  have y4 : w5.cell? ⟨w.heap.size, 4, none⟩ = _ := cell_of_row w5 _ 4 _ _ _ hrow
  have y5 : w5.cell? ⟨w.heap.size, 5, none⟩ = _ := cell_of_row w5 _ 5 _ _ _ hrow
  clear hb6 hf6 hrow HRC
  clear HV5
  go_wp2
  refine bodyPost_ret (v := .tuple #[.agg #[.int .i64 2, .int .i64 m, .string key, .string ⟨#[]⟩, .int .i64 0, .int .i64 0], .bool true]) (by simp [results, Tryz.results51, go_sem, *]) rfl ⟨rfl, ?_⟩
  iterate 6 (refine Below.setCell ?_ (by exact Nat.le_refl _) _)
  exact HB6.out

set_option maxRecDepth 100000 in
set_option maxHeartbeats 4000000 in
theorem sread_2_no (s s1 s2 S : ByteArray) (a m b : Nat) (key left : ByteArray) (o1 : Bool) (hs : s.size ≤ 1048576) (ha : a ≤ s.size) (hab : a + b ≤ s.size) (HN : Hid (s.extract a s.size = s1)) (HE : Hid (s.extract (a + b) s.size = s2)) (h1 : ((a : Int) == 0) = false) (h2 : ((b : Int) == 0) = false) (h0 : ¬ s.size = 0)
    (HR : Hid (Ans 88 #[.string s] (.tuple #[.int .i64 2, .int .i64 a]))) (HR2 : Hid (Ans 88 #[.string s1] (.tuple #[.int .i64 m, .int .i64 b]))) (HK : Hid (Ans 89 #[.string s2] (.tuple #[.string key, .string left, .bool o1])))
    (HSH : Hid (Ans 76 #[.agg #[.int .i64 2, .int .i64 m, .string key, .string ⟨#[]⟩, .int .i64 0, .int .i64 0]] (.string S))) (hE : (S.toList == s.toList) = false) (w : World) :
    Calls Tryz.prog 51 #[.string s] w fun e w' => e = .returned (.tuple #[.agg #[.int .i64 0, .int .i64 0, .string ⟨#[]⟩, .string ⟨#[]⟩, .int .i64 0, .int .i64 0], .bool false]) ∧ Below w.heap.size w w' := by
  obtain ⟨W0, hW⟩ : ∃ W0, W0 = w.alloc (.cells #[.int .i64 0, .int .i64 0, .string ⟨#[]⟩, .string ⟨#[]⟩, .int .i64 0, .int .i64 0] 41) := ⟨_, rfl⟩
  have HRC := hide (fun W h => res_cells w W0 W hW h)
  have t0 := not_empty h0
  have t1 := nil_ne h0
  clear h0
  go_enter Tryz.func51, Tryz.ntmps51
  go_wp2_with fail
  rw [← hW]
  clear hW
  refine (HR.out _).mono ?_
  rintro e w1 ⟨rfl, hb1⟩
  have HB1 := hide hb1
  clear hb1 HR
  go_wp2_with fail
  rw [HN.out]
  refine (HR2.out _).mono ?_
  rintro e w2 ⟨rfl, hb2⟩
  have HV2 := hide (RvAt.start (HB1.out.trans (hb2.mono HB1.out.size)) 2 m ⟨#[]⟩ ⟨#[]⟩ 0 0)
  obtain ⟨D, hD⟩ : ∃ D, w2.heap.size = D := ⟨_, rfl⟩
  rw [hD] at HV2
  clear hb2 HB1 HR2
  go_wp2_with fail
  rw [HE.out]
  clear hD
  refine (HK.out _).mono ?_
  rintro e w4 ⟨rfl, hb4⟩
  have HV4 := hide (HV2.out.later hb4)
  clear HV2 hb4 HK
  obtain ⟨x0, x1, x2, x3, x4, x5⟩ := HV4.out.cells
  have f2 := HV4.out.free 2
  have HV4b := hide (HV4.out.setKey key)
  clear HV4
  go_wp2_with fail
  refine (HSH.out _).mono ?_
  rintro e w5 ⟨rfl, hb5⟩
  have HV5 := hide (HV4b.out.later hb5)
  clear HV4b hb5 HSH x0 x1 x2 x3 x4 x5
  obtain ⟨x0, x1, x2, x3, x4, x5⟩ := HV5.out.cells
  obtain ⟨hb6, hf6, hrow⟩ := HRC.out w5 HV5.out.bel
  have HB6 := hide hb6
  have g0 := hf6 0
  have g1 := hf6 1
  have g2 := hf6 2
  have g3 := hf6 3
  have g4 := hf6 4
  have g5 := hf6 5
  have y0 : w5.cell? ⟨w.heap.size, 0, none⟩ = _ := cell_of_row w5 _ 0 _ _ _ hrow
  have y1 : w5.cell? ⟨w.heap.size, 1, none⟩ = _ := cell_of_row w5 _ 1 _ _ _ hrow
  have y2 : w5.cell? ⟨w.heap.size, 2, none⟩ = _ := cell_of_row w5 _ 2 _ _ _ hrow
  have y3 : w5.cell? ⟨w.heap.size, 3, none⟩ = _ := cell_of_row w5 _ 3 _ _ _ hrow
  have y4 : w5.cell? ⟨w.heap.size, 4, none⟩ = _ := cell_of_row w5 _ 4 _ _ _ hrow
  have y5 : w5.cell? ⟨w.heap.size, 5, none⟩ = _ := cell_of_row w5 _ 5 _ _ _ hrow
  clear hb6 hf6 hrow HRC
  clear HV5
  go_wp2
  refine bodyPost_ret (v := .tuple #[.agg #[.int .i64 0, .int .i64 0, .string ⟨#[]⟩, .string ⟨#[]⟩, .int .i64 0, .int .i64 0], .bool false]) (by simp [results, Tryz.results51, go_sem, *]) rfl ⟨rfl, ?_⟩
  iterate 6 (refine Below.setCell ?_ (by exact Nat.le_refl _) _)
  exact HB6.out

end Go.Proofs.YtimpokbcfjgdaaaGreatDoor
namespace Go.Proofs.YtimpokbcfjgdaaaGreatDoor
open Go.RowKit
open Plain


set_option maxRecDepth 100000 in
set_option maxHeartbeats 4000000 in
theorem sread_n_yes (s s1 s2 S : ByteArray) (a m b : Nat) (n p c x : Nat) (s3 : ByteArray) (o1 : Bool) (n1 : ((n : Int) == 1) = false) (n2 : ((n : Int) == 2) = false) (n4 : ((n : Int) == 4) = false) (hc : c ≤ s2.size) (hs : s.size ≤ 1048576) (ha : a ≤ s.size) (hab : a + b ≤ s.size) (HN : Hid (s.extract a s.size = s1)) (HE : Hid (s.extract (a + b) s.size = s2)) (h1 : ((a : Int) == 0) = false) (h2 : ((b : Int) == 0) = false) (h0 : ¬ s.size = 0)
    (HR : Hid (Ans 88 #[.string s] (.tuple #[.int .i64 n, .int .i64 a]))) (HR2 : Hid (Ans 88 #[.string s1] (.tuple #[.int .i64 m, .int .i64 b]))) (HK : Hid (Ans 88 #[.string s2] (.tuple #[.int .i64 p, .int .i64 c]))) (HC : Hid (s2.extract c s2.size = s3)) (HL : Hid (Ans 90 #[.string s3, .int .i64 4] (.tuple #[.int .i64 x, .bool o1])))
    (HSH : Hid (Ans 76 #[.agg #[.int .i64 n, .int .i64 m, .string ⟨#[]⟩, .string ⟨#[]⟩, .int .i64 p, .int .i64 x]] (.string S))) (hE : (S.toList == s.toList) = true) (w : World) :
    Calls Tryz.prog 51 #[.string s] w fun e w' => e = .returned (.tuple #[.agg #[.int .i64 n, .int .i64 m, .string ⟨#[]⟩, .string ⟨#[]⟩, .int .i64 p, .int .i64 x], .bool true]) ∧ Below w.heap.size w w' := by
  obtain ⟨W0, hW⟩ : ∃ W0, W0 = w.alloc (.cells #[.int .i64 0, .int .i64 0, .string ⟨#[]⟩, .string ⟨#[]⟩, .int .i64 0, .int .i64 0] 41) := ⟨_, rfl⟩
  have HRC := hide (fun W h => res_cells w W0 W hW h)
  have t0 := not_empty h0
  have t1 := nil_ne h0
  clear h0
  go_enter Tryz.func51, Tryz.ntmps51
  go_wp2_with fail
  rw [← hW]
  clear hW
  refine (HR.out _).mono ?_
  rintro e w1 ⟨rfl, hb1⟩
  have HB1 := hide hb1
  clear hb1 HR
  go_wp2_with fail
  rw [HN.out]
  refine (HR2.out _).mono ?_
  rintro e w2 ⟨rfl, hb2⟩
  have HV2 := hide (RvAt.start (HB1.out.trans (hb2.mono HB1.out.size)) n m ⟨#[]⟩ ⟨#[]⟩ 0 0)
  obtain ⟨D, hD⟩ : ∃ D, w2.heap.size = D := ⟨_, rfl⟩
  rw [hD] at HV2
  clear hb2 HB1 HR2
  go_wp2_with fail
  rw [HE.out]
  clear hD
  refine (HK.out _).mono ?_
  rintro e w3 ⟨rfl, hb3⟩
  have HV3 := hide (HV2.out.later hb3)
  clear HV2 hb3 HK
  go_wp2_with fail
  rw [HC.out]
  refine (HL.out _).mono ?_
  rintro e w4 ⟨rfl, hb4⟩
  have HV4 := hide (HV3.out.later hb4)
  clear HV3 hb4 HL
  obtain ⟨x0, x1, x2, x3, x4, x5⟩ := HV4.out.cells
  have f4 := HV4.out.free 4
  have f5 := HV4.out.free 5
  have HV4b := hide ((HV4.out.setCnt p).setSum x)
  clear HV4
  go_wp2_with fail
  refine (HSH.out _).mono ?_
  rintro e w5 ⟨rfl, hb5⟩
  have HV5 := hide (HV4b.out.later hb5)
  clear HV4b hb5 HSH x0 x1 x2 x3 x4 x5
  obtain ⟨x0, x1, x2, x3, x4, x5⟩ := HV5.out.cells
  obtain ⟨hb6, hf6, hrow⟩ := HRC.out w5 HV5.out.bel
  have HB6 := hide hb6
  have g0 := hf6 0
  have g1 := hf6 1
  have g2 := hf6 2
  have g3 := hf6 3
  have g4 := hf6 4
  have g5 := hf6 5
  have y0 : w5.cell? ⟨w.heap.size, 0, none⟩ = _ := cell_of_row w5 _ 0 _ _ _ hrow
  have y1 : w5.cell? ⟨w.heap.size, 1, none⟩ = _ := cell_of_row w5 _ 1 _ _ _ hrow
  have y2 : w5.cell? ⟨w.heap.size, 2, none⟩ = _ := cell_of_row w5 _ 2 _ _ _ hrow
  have y3 : w5.cell? ⟨w.heap.size, 3, none⟩ = _ := cell_of_row w5 _ 3 _ _ _ hrow
  have y4 : w5.cell? ⟨w.heap.size, 4, none⟩ = _ := cell_of_row w5 _ 4 _ _ _ hrow
  have y5 : w5.cell? ⟨w.heap.size, 5, none⟩ = _ := cell_of_row w5 _ 5 _ _ _ hrow
  clear hb6 hf6 hrow HRC
  clear HV5
  go_wp2
  refine bodyPost_ret (v := .tuple #[.agg #[.int .i64 n, .int .i64 m, .string ⟨#[]⟩, .string ⟨#[]⟩, .int .i64 p, .int .i64 x], .bool true]) (by simp [results, Tryz.results51, go_sem, *]) rfl ⟨rfl, ?_⟩
  iterate 6 (refine Below.setCell ?_ (by exact Nat.le_refl _) _)
  exact HB6.out

set_option maxRecDepth 100000 in
set_option maxHeartbeats 4000000 in
theorem sread_n_no (s s1 s2 S : ByteArray) (a m b : Nat) (n p c x : Nat) (s3 : ByteArray) (o1 : Bool) (n1 : ((n : Int) == 1) = false) (n2 : ((n : Int) == 2) = false) (n4 : ((n : Int) == 4) = false) (hc : c ≤ s2.size) (hs : s.size ≤ 1048576) (ha : a ≤ s.size) (hab : a + b ≤ s.size) (HN : Hid (s.extract a s.size = s1)) (HE : Hid (s.extract (a + b) s.size = s2)) (h1 : ((a : Int) == 0) = false) (h2 : ((b : Int) == 0) = false) (h0 : ¬ s.size = 0)
    (HR : Hid (Ans 88 #[.string s] (.tuple #[.int .i64 n, .int .i64 a]))) (HR2 : Hid (Ans 88 #[.string s1] (.tuple #[.int .i64 m, .int .i64 b]))) (HK : Hid (Ans 88 #[.string s2] (.tuple #[.int .i64 p, .int .i64 c]))) (HC : Hid (s2.extract c s2.size = s3)) (HL : Hid (Ans 90 #[.string s3, .int .i64 4] (.tuple #[.int .i64 x, .bool o1])))
    (HSH : Hid (Ans 76 #[.agg #[.int .i64 n, .int .i64 m, .string ⟨#[]⟩, .string ⟨#[]⟩, .int .i64 p, .int .i64 x]] (.string S))) (hE : (S.toList == s.toList) = false) (w : World) :
    Calls Tryz.prog 51 #[.string s] w fun e w' => e = .returned (.tuple #[.agg #[.int .i64 0, .int .i64 0, .string ⟨#[]⟩, .string ⟨#[]⟩, .int .i64 0, .int .i64 0], .bool false]) ∧ Below w.heap.size w w' := by
  obtain ⟨W0, hW⟩ : ∃ W0, W0 = w.alloc (.cells #[.int .i64 0, .int .i64 0, .string ⟨#[]⟩, .string ⟨#[]⟩, .int .i64 0, .int .i64 0] 41) := ⟨_, rfl⟩
  have HRC := hide (fun W h => res_cells w W0 W hW h)
  have t0 := not_empty h0
  have t1 := nil_ne h0
  clear h0
  go_enter Tryz.func51, Tryz.ntmps51
  go_wp2_with fail
  rw [← hW]
  clear hW
  refine (HR.out _).mono ?_
  rintro e w1 ⟨rfl, hb1⟩
  have HB1 := hide hb1
  clear hb1 HR
  go_wp2_with fail
  rw [HN.out]
  refine (HR2.out _).mono ?_
  rintro e w2 ⟨rfl, hb2⟩
  have HV2 := hide (RvAt.start (HB1.out.trans (hb2.mono HB1.out.size)) n m ⟨#[]⟩ ⟨#[]⟩ 0 0)
  obtain ⟨D, hD⟩ : ∃ D, w2.heap.size = D := ⟨_, rfl⟩
  rw [hD] at HV2
  clear hb2 HB1 HR2
  go_wp2_with fail
  rw [HE.out]
  clear hD
  refine (HK.out _).mono ?_
  rintro e w3 ⟨rfl, hb3⟩
  have HV3 := hide (HV2.out.later hb3)
  clear HV2 hb3 HK
  go_wp2_with fail
  rw [HC.out]
  refine (HL.out _).mono ?_
  rintro e w4 ⟨rfl, hb4⟩
  have HV4 := hide (HV3.out.later hb4)
  clear HV3 hb4 HL
  obtain ⟨x0, x1, x2, x3, x4, x5⟩ := HV4.out.cells
  have f4 := HV4.out.free 4
  have f5 := HV4.out.free 5
  have HV4b := hide ((HV4.out.setCnt p).setSum x)
  clear HV4
  go_wp2_with fail
  refine (HSH.out _).mono ?_
  rintro e w5 ⟨rfl, hb5⟩
  have HV5 := hide (HV4b.out.later hb5)
  clear HV4b hb5 HSH x0 x1 x2 x3 x4 x5
  obtain ⟨x0, x1, x2, x3, x4, x5⟩ := HV5.out.cells
  obtain ⟨hb6, hf6, hrow⟩ := HRC.out w5 HV5.out.bel
  have HB6 := hide hb6
  have g0 := hf6 0
  have g1 := hf6 1
  have g2 := hf6 2
  have g3 := hf6 3
  have g4 := hf6 4
  have g5 := hf6 5
  have y0 : w5.cell? ⟨w.heap.size, 0, none⟩ = _ := cell_of_row w5 _ 0 _ _ _ hrow
  have y1 : w5.cell? ⟨w.heap.size, 1, none⟩ = _ := cell_of_row w5 _ 1 _ _ _ hrow
  have y2 : w5.cell? ⟨w.heap.size, 2, none⟩ = _ := cell_of_row w5 _ 2 _ _ _ hrow
  have y3 : w5.cell? ⟨w.heap.size, 3, none⟩ = _ := cell_of_row w5 _ 3 _ _ _ hrow
  have y4 : w5.cell? ⟨w.heap.size, 4, none⟩ = _ := cell_of_row w5 _ 4 _ _ _ hrow
  have y5 : w5.cell? ⟨w.heap.size, 5, none⟩ = _ := cell_of_row w5 _ 5 _ _ _ hrow
  clear hb6 hf6 hrow HRC
  clear HV5
  go_wp2
  refine bodyPost_ret (v := .tuple #[.agg #[.int .i64 0, .int .i64 0, .string ⟨#[]⟩, .string ⟨#[]⟩, .int .i64 0, .int .i64 0], .bool false]) (by simp [results, Tryz.results51, go_sem, *]) rfl ⟨rfl, ?_⟩
  iterate 6 (refine Below.setCell ?_ (by exact Nat.le_refl _) _)
  exact HB6.out

end Go.Proofs.YtimpokbcfjgdaaaGreatDoor
namespace Go.Proofs.YtimpokbcfjgdaaaGreatDoor
open Go.RowKit
open Plain

set_option maxRecDepth 100000 in
set_option maxHeartbeats 4000000 in
theorem sread_kind (s s1 : ByteArray) (n a m b : Nat) (ha : a ≤ s.size) (HN : Hid (s.extract a s.size = s1)) (h1 : ((a : Int) == 0) = true)
    (HR : Hid (Ans 88 #[.string s] (.tuple #[.int .i64 n, .int .i64 a]))) (HR2 : Hid (Ans 88 #[.string s1] (.tuple #[.int .i64 m, .int .i64 b]))) (w : World) :
    Calls Tryz.prog 51 #[.string s] w fun e w' => e = .returned (.tuple #[.agg #[.int .i64 0, .int .i64 0, .string ⟨#[]⟩, .string ⟨#[]⟩, .int .i64 0, .int .i64 0], .bool false]) ∧ Below w.heap.size w w' := by
  obtain ⟨W0, hW⟩ : ∃ W0, W0 = w.alloc (.cells #[.int .i64 0, .int .i64 0, .string ⟨#[]⟩, .string ⟨#[]⟩, .int .i64 0, .int .i64 0] 41) := ⟨_, rfl⟩
  have HRC := hide (fun W h => res_cells w W0 W hW h)
  go_enter Tryz.func51, Tryz.ntmps51
  go_wp2_with fail
  rw [← hW]
  clear hW
  refine (HR.out _).mono ?_
  rintro e w1 ⟨rfl, hb1⟩
  have HB1 := hide hb1
  clear hb1 HR
  go_wp2_with fail
  rw [HN.out]
  refine (HR2.out _).mono ?_
  rintro e w5 ⟨rfl, hb2⟩
  obtain ⟨hb6, hf6, hrow⟩ := HRC.out w5 (HB1.out.trans (hb2.mono HB1.out.size))
  have HB6 := hide hb6
  have g0 := hf6 0
  have g1 := hf6 1
  have g2 := hf6 2
  have g3 := hf6 3
  have g4 := hf6 4
  have g5 := hf6 5
  have y0 : w5.cell? ⟨w.heap.size, 0, none⟩ = _ := cell_of_row w5 _ 0 _ _ _ hrow
  have y1 : w5.cell? ⟨w.heap.size, 1, none⟩ = _ := cell_of_row w5 _ 1 _ _ _ hrow
  have y2 : w5.cell? ⟨w.heap.size, 2, none⟩ = _ := cell_of_row w5 _ 2 _ _ _ hrow
  have y3 : w5.cell? ⟨w.heap.size, 3, none⟩ = _ := cell_of_row w5 _ 3 _ _ _ hrow
  have y4 : w5.cell? ⟨w.heap.size, 4, none⟩ = _ := cell_of_row w5 _ 4 _ _ _ hrow
  have y5 : w5.cell? ⟨w.heap.size, 5, none⟩ = _ := cell_of_row w5 _ 5 _ _ _ hrow
  clear hb6 hf6 hrow HRC hb2 HB1 HR2
  go_wp2
  refine bodyPost_ret (v := .tuple #[.agg #[.int .i64 0, .int .i64 0, .string ⟨#[]⟩, .string ⟨#[]⟩, .int .i64 0, .int .i64 0], .bool false]) (by simp [results, Tryz.results51, go_sem, *]) rfl ⟨rfl, ?_⟩
  iterate 6 (refine Below.setCell ?_ (by exact Nat.le_refl _) _)
  exact HB6.out

set_option maxRecDepth 100000 in
set_option maxHeartbeats 4000000 in
theorem sread_batch (s s1 : ByteArray) (n a m b : Nat) (ha : a ≤ s.size) (HN : Hid (s.extract a s.size = s1)) (h1 : ((a : Int) == 0) = false) (h2 : ((b : Int) == 0) = true)
    (HR : Hid (Ans 88 #[.string s] (.tuple #[.int .i64 n, .int .i64 a]))) (HR2 : Hid (Ans 88 #[.string s1] (.tuple #[.int .i64 m, .int .i64 b]))) (w : World) :
    Calls Tryz.prog 51 #[.string s] w fun e w' => e = .returned (.tuple #[.agg #[.int .i64 0, .int .i64 0, .string ⟨#[]⟩, .string ⟨#[]⟩, .int .i64 0, .int .i64 0], .bool false]) ∧ Below w.heap.size w w' := by
  obtain ⟨W0, hW⟩ : ∃ W0, W0 = w.alloc (.cells #[.int .i64 0, .int .i64 0, .string ⟨#[]⟩, .string ⟨#[]⟩, .int .i64 0, .int .i64 0] 41) := ⟨_, rfl⟩
  have HRC := hide (fun W h => res_cells w W0 W hW h)
  go_enter Tryz.func51, Tryz.ntmps51
  go_wp2_with fail
  rw [← hW]
  clear hW
  refine (HR.out _).mono ?_
  rintro e w1 ⟨rfl, hb1⟩
  have HB1 := hide hb1
  clear hb1 HR
  go_wp2_with fail
  rw [HN.out]
  refine (HR2.out _).mono ?_
  rintro e w5 ⟨rfl, hb2⟩
  obtain ⟨hb6, hf6, hrow⟩ := HRC.out w5 (HB1.out.trans (hb2.mono HB1.out.size))
  have HB6 := hide hb6
  have g0 := hf6 0
  have g1 := hf6 1
  have g2 := hf6 2
  have g3 := hf6 3
  have g4 := hf6 4
  have g5 := hf6 5
  have y0 : w5.cell? ⟨w.heap.size, 0, none⟩ = _ := cell_of_row w5 _ 0 _ _ _ hrow
  have y1 : w5.cell? ⟨w.heap.size, 1, none⟩ = _ := cell_of_row w5 _ 1 _ _ _ hrow
  have y2 : w5.cell? ⟨w.heap.size, 2, none⟩ = _ := cell_of_row w5 _ 2 _ _ _ hrow
  have y3 : w5.cell? ⟨w.heap.size, 3, none⟩ = _ := cell_of_row w5 _ 3 _ _ _ hrow
  have y4 : w5.cell? ⟨w.heap.size, 4, none⟩ = _ := cell_of_row w5 _ 4 _ _ _ hrow
  have y5 : w5.cell? ⟨w.heap.size, 5, none⟩ = _ := cell_of_row w5 _ 5 _ _ _ hrow
  clear hb6 hf6 hrow HRC hb2 HB1 HR2
  go_wp2
  refine bodyPost_ret (v := .tuple #[.agg #[.int .i64 0, .int .i64 0, .string ⟨#[]⟩, .string ⟨#[]⟩, .int .i64 0, .int .i64 0], .bool false]) (by simp [results, Tryz.results51, go_sem, *]) rfl ⟨rfl, ?_⟩
  iterate 6 (refine Below.setCell ?_ (by exact Nat.le_refl _) _)
  exact HB6.out

theorem sread_base (s : ByteArray) (hs : s.size ≤ 1048576) (ha : (rv s).2 ≠ 0) (hb : (rv (numT s)).2 ≠ 0) :
    (rv s).2 ≤ s.size ∧ (rv s).2 + (rv (numT s)).2 ≤ s.size ∧ Hid (Ans 88 #[.string (numT s)] (.tuple #[.int .i64 ((rv (numT s)).1 : Nat), .int .i64 ((rv (numT s)).2 : Nat)])) ∧ (¬ s.size = 0) ∧ ((((rv s).2 : Nat) : Int) == 0) = false ∧ ((((rv (numT s)).2 : Nat) : Int) == 0) = false ∧ (numT (numT s)).size ≤ 1048576 := by
  have b1 := rv_bd s
  have b2 := rv_bd (numT s)
  have z1 := numT_size s
  have z2 := numT_size (numT s)
  exact ⟨b1.2.2, by omega, hide (specRV_any (numT s) (by omega)), by omega, by simp; omega, by simp; omega, by omega⟩

theorem sread_1 (s : ByteArray) (hs : s.size ≤ 1048576) (hk : (rv s).1 = 1) (ha : (rv s).2 ≠ 0) (hb : (rv (numT s)).2 ≠ 0) : ReadsR 51 s := by
  obtain ⟨q1, q2, q3, q4, q5, q6, q7⟩ := sread_base s hs ha hb
  have e1 : (((rv s).1 : Nat) : Int) = 1 := by omega
  have HR := hide (specRV_any s hs)
  rw [e1] at HR
  have hp : sparse s = ⟨1, (rv (numT s)).1, t5V (numT (numT s)), t5V (t5R (numT (numT s))), 0, 0⟩ := by unfold sparse; rw [if_pos (by omega), e1]
  have HSH := hide (specShow_any (sparse s) (by have := sparse_size s; unfold maxLen; omega))
  have HK := hide (l5Text_any (numT (numT s)) q7)
  have HL := hide (l5Text_any (t5R (numT (numT s))) (by have := t5R_size (numT (numT s)); omega))
  by_cases he : showS (sparse s) = s
  · refine ⟨sparse s, true, RR_same s q4 he, fun w => ?_⟩
    rw [hp] at HSH ⊢
    rw [hp] at he
    simp only at HSH ⊢
    exact sread_1_yes s (numT s) (numT (numT s)) _ _ _ _ _ _ _ _ _ _ hs q1 q2 (hide rfl) (hide (rest_eq s)) q5 q6 q4 HR q3 HK HL HSH (str_eq _ _ he) w
  · refine ⟨zeroR, false, RR_other s he, fun w => ?_⟩
    rw [hp] at HSH
    rw [hp] at he
    simp only at HSH
    exact sread_1_no s (numT s) (numT (numT s)) _ _ _ _ _ _ _ _ _ _ hs q1 q2 (hide rfl) (hide (rest_eq s)) q5 q6 q4 HR q3 HK HL HSH (str_ne _ _ he) w

theorem sread_4 (s : ByteArray) (hs : s.size ≤ 1048576) (hk : (rv s).1 = 4) (ha : (rv s).2 ≠ 0) (hb : (rv (numT s)).2 ≠ 0) : ReadsR 51 s := by
  obtain ⟨q1, q2, q3, q4, q5, q6, q7⟩ := sread_base s hs ha hb
  have e1 : (((rv s).1 : Nat) : Int) = 4 := by omega
  have HR := hide (specRV_any s hs)
  rw [e1] at HR
  have hp : sparse s = ⟨4, (rv (numT s)).1, t5V (numT (numT s)), t5V (t5R (numT (numT s))), 0, 0⟩ := by unfold sparse; rw [if_pos (by omega), e1]
  have HSH := hide (specShow_any (sparse s) (by have := sparse_size s; unfold maxLen; omega))
  have HK := hide (l5Text_any (numT (numT s)) q7)
  have HL := hide (l5Text_any (t5R (numT (numT s))) (by have := t5R_size (numT (numT s)); omega))
  by_cases he : showS (sparse s) = s
  · refine ⟨sparse s, true, RR_same s q4 he, fun w => ?_⟩
    rw [hp] at HSH ⊢
    rw [hp] at he
    simp only at HSH ⊢
    exact sread_4_yes s (numT s) (numT (numT s)) _ _ _ _ _ _ _ _ _ _ hs q1 q2 (hide rfl) (hide (rest_eq s)) q5 q6 q4 HR q3 HK HL HSH (str_eq _ _ he) w
  · refine ⟨zeroR, false, RR_other s he, fun w => ?_⟩
    rw [hp] at HSH
    rw [hp] at he
    simp only at HSH
    exact sread_4_no s (numT s) (numT (numT s)) _ _ _ _ _ _ _ _ _ _ hs q1 q2 (hide rfl) (hide (rest_eq s)) q5 q6 q4 HR q3 HK HL HSH (str_ne _ _ he) w

theorem sread_2 (s : ByteArray) (hs : s.size ≤ 1048576) (hk : (rv s).1 = 2) (ha : (rv s).2 ≠ 0) (hb : (rv (numT s)).2 ≠ 0) : ReadsR 51 s := by
  obtain ⟨q1, q2, q3, q4, q5, q6, q7⟩ := sread_base s hs ha hb
  have e1 : (((rv s).1 : Nat) : Int) = 2 := by omega
  have HR := hide (specRV_any s hs)
  rw [e1] at HR
  have hp : sparse s = ⟨2, (rv (numT s)).1, t5V (numT (numT s)), ⟨#[]⟩, 0, 0⟩ := by unfold sparse; rw [if_neg (by omega), if_pos hk, e1]
  have HSH := hide (specShow_any (sparse s) (by have := sparse_size s; unfold maxLen; omega))
  have HK := hide (l5Text_any (numT (numT s)) q7)
  by_cases he : showS (sparse s) = s
  · refine ⟨sparse s, true, RR_same s q4 he, fun w => ?_⟩
    rw [hp] at HSH ⊢
    rw [hp] at he
    simp only at HSH ⊢
    exact sread_2_yes s (numT s) (numT (numT s)) _ _ _ _ _ _ _ hs q1 q2 (hide rfl) (hide (rest_eq s)) q5 q6 q4 HR q3 HK HSH (str_eq _ _ he) w
  · refine ⟨zeroR, false, RR_other s he, fun w => ?_⟩
    rw [hp] at HSH
    rw [hp] at he
    simp only at HSH
    exact sread_2_no s (numT s) (numT (numT s)) _ _ _ _ _ _ _ hs q1 q2 (hide rfl) (hide (rest_eq s)) q5 q6 q4 HR q3 HK HSH (str_ne _ _ he) w

theorem sread_n (s : ByteArray) (hs : s.size ≤ 1048576) (k14 : ¬ ((rv s).1 = 1 ∨ (rv s).1 = 4)) (k2 : (rv s).1 ≠ 2) (ha : (rv s).2 ≠ 0) (hb : (rv (numT s)).2 ≠ 0) : ReadsR 51 s := by
  obtain ⟨q1, q2, q3, q4, q5, q6, q7⟩ := sread_base s hs ha hb
  have HR := hide (specRV_any s hs)
  have n1 : ((((rv s).1 : Nat) : Int) == 1) = false := by simp; omega
  have n2 : ((((rv s).1 : Nat) : Int) == 2) = false := by simp; omega
  have n4 : ((((rv s).1 : Nat) : Int) == 4) = false := by simp; omega
  have hp : sparse s = ⟨(rv s).1, (rv (numT s)).1, ⟨#[]⟩, ⟨#[]⟩, (rv (numT (numT s))).1, sumV (numT (numT (numT s)))⟩ := by unfold sparse; rw [if_neg k14, if_neg k2]
  have HSH := hide (specShow_any (sparse s) (by have := sparse_size s; unfold maxLen; omega))
  have HK := hide (specRV_any (numT (numT s)) q7)
  have HL := hide (specRF4_any (numT (numT (numT s))) (by rw [numT_size]; omega))
  have hc := (rv_bd (numT (numT s))).2.2
  by_cases he : showS (sparse s) = s
  · refine ⟨sparse s, true, RR_same s q4 he, fun w => ?_⟩
    rw [hp] at HSH ⊢
    rw [hp] at he
    simp only at HSH ⊢
    exact sread_n_yes s (numT s) (numT (numT s)) _ _ _ _ _ _ _ _ (numT (numT (numT s))) _ n1 n2 n4 hc hs q1 q2 (hide rfl) (hide (rest_eq s)) q5 q6 q4 HR q3 HK (hide rfl) HL HSH (str_eq _ _ he) w
  · refine ⟨zeroR, false, RR_other s he, fun w => ?_⟩
    rw [hp] at HSH
    rw [hp] at he
    simp only at HSH
    exact sread_n_no s (numT s) (numT (numT s)) _ _ _ _ _ _ _ _ (numT (numT (numT s))) _ n1 n2 n4 hc hs q1 q2 (hide rfl) (hide (rest_eq s)) q5 q6 q4 HR q3 HK (hide rfl) HL HSH (str_ne _ _ he) w

theorem specRead_any (s : ByteArray) (hs : s.size ≤ 1048576) : ReadsR 51 s := by
  have b1 := rv_bd s
  have z1 := numT_size s
  by_cases ha : (rv s).2 = 0
  · exact ⟨zeroR, false, RR_unclean s (fun h => h.1 ha), fun w => sread_kind s (numT s) _ _ _ _ b1.2.2 (hide rfl) (by simp; omega) (hide (specRV_any s hs)) (hide (specRV_any (numT s) (by omega))) w⟩
  by_cases hb : (rv (numT s)).2 = 0
  · exact ⟨zeroR, false, RR_unclean s (fun h => h.2.1 hb), fun w => sread_batch s (numT s) _ _ _ _ b1.2.2 (hide rfl) (by simp; omega) (by simp; omega) (hide (specRV_any s hs)) (hide (specRV_any (numT s) (by omega))) w⟩
  by_cases k1 : (rv s).1 = 1
  · exact sread_1 s hs k1 ha hb
  by_cases k4 : (rv s).1 = 4
  · exact sread_4 s hs k4 ha hb
  by_cases k2 : (rv s).1 = 2
  · exact sread_2 s hs k2 ha hb
  exact sread_n s hs (by omega) k2 ha hb

end Go.Proofs.YtimpokbcfjgdaaaGreatDoor
namespace Go.Proofs.YtimpokbcfjgdaaaGreatDoor
open Go.RowKit
open Plain

/-- Where a record stands in a log. -/
structure SpotV where
  pos : Nat
  len : Nat
  r : RecV
def recSh : Shape RecV where
  cells := fun r => [.int .i64 r.kind, .int .i64 r.batch, .string r.key, .string r.val, .int .i64 r.cnt, .int .i64 r.sum]
  k := 6
  len := fun _ => rfl
  one := fun r u h => by
    simp only [List.mem_cons, List.not_mem_nil, or_false] at h
    rcases h with rfl | rfl | rfl | rfl | rfl | rfl <;> rfl
  pos := by decide
def spotSh : Shape SpotV where
  cells := fun p => [.int .i64 (p.pos : Nat), .int .i64 (p.len : Nat), .int .i64 p.r.kind, .int .i64 p.r.batch, .string p.r.key, .string p.r.val, .int .i64 p.r.cnt, .int .i64 p.r.sum]
  k := 8
  len := fun _ => rfl
  one := fun r u h => by
    simp only [List.mem_cons, List.not_mem_nil, or_false] at h
    rcases h with rfl | rfl | rfl | rfl | rfl | rfl | rfl | rfl <;> rfl
  pos := by decide
theorem Tryz.infoSpot : (Tryz.prog.info? 43).map (fun i => (i.zero, i.size, i.bytes)) = some (some (.agg #[.int .i64 0, .int .i64 0, .int .i64 0, .int .i64 0, .string ⟨#[]⟩, .string ⟨#[]⟩, .int .i64 0, .int .i64 0]), 8, 80) := by kernel_rfl
theorem Tryz.infoRec : (Tryz.prog.info? 41).map (fun i => (i.zero, i.size, i.bytes)) = some (some (.agg #[.int .i64 0, .int .i64 0, .string ⟨#[]⟩, .string ⟨#[]⟩, .int .i64 0, .int .i64 0]), 6, 64) := by kernel_rfl

/-- 'out = append(out, p)', out a row of spots of the call's own, p in a new block. -/
theorem wpList_app_spot {ops : Array Oper} {rest : List Oper} {o : Oper} {act : Act} {Q : Exit → Act → World → Prop} (hgd : o.guard = none) (s x : Operand)
    (ho : o.op = .call { callee := .builtin .append, args := #[s, x], argTypes := #[37, 37] }) {w : World} {base : Nat} {v : Value} {xs : List SpotV} (p : SpotV) (hown : spotSh.Own 43 w base v xs) (hb : base ≤ w.heap.size) (hn : xs.length ≤ 1099511627775)
    {N : Nat} (hs : act.eval s = v) (hx : act.eval x = .slice (some ⟨N, 0, none⟩) 1 1) (hN : w.heap.size = N)
    (h : ∀ a' n' cap' w', n' = xs.length + 1 → spotSh.Own 43 w' base (.slice a' n' cap') (xs ++ [p]) → Below base w w' → wpList Tryz.prog ops Q rest (act.put o.dst (.slice a' n' cap')) w') :
    wpList Tryz.prog ops Q (o :: rest) act (w.alloc (.cells #[.int .i64 (p.pos : Nat), .int .i64 (p.len : Nat), .int .i64 p.r.kind, .int .i64 p.r.batch, .string p.r.key, .string p.r.val, .int .i64 p.r.cnt, .int .i64 p.r.sum] 43)) := by
  subst hN
  obtain ⟨i0, hi, hz0, hz1, hz2⟩ := info_parts Tryz.infoSpot
  have hA : Below w.heap.size w (w.alloc (.cells (spotSh.cells p).toArray 43)) := (Below.refl _ _).alloc (Nat.le_refl _) _
  refine spotSh.wpList_app (P := Tryz.prog) hgd s x 37 43 ho Tryz.underlying37 hi hz0 hz1 hz2 rfl (by decide) (hown.later hA (Nat.le_refl _)) (Nat.le_trans hb hA.size) (Shape.Row.single spotSh 43 w p) (by omega) hs hx ?_
  intro a' n' cap' w' hn' ho' hg
  refine h a' n' cap' w' hn' ho' ?_
  refine (hA.mono hb).trans ?_
  exact (Below.refl _ _).grown hg (Nat.le_trans hb hA.size) (fun g hg => (hown.blk g hg).1)
/-- 'l = append(l, r)', l a row of records of the call's own, r in a new block. -/
theorem wpList_app_rec {ops : Array Oper} {rest : List Oper} {o : Oper} {act : Act} {Q : Exit → Act → World → Prop} (hgd : o.guard = none) (s x : Operand)
    (ho : o.op = .call { callee := .builtin .append, args := #[s, x], argTypes := #[97, 97] }) {w : World} {base : Nat} {v : Value} {xs : List RecV} (r : RecV) (hown : recSh.Own 41 w base v xs) (hb : base ≤ w.heap.size) (hn : xs.length ≤ 1099511627775)
    {N : Nat} (hs : act.eval s = v) (hx : act.eval x = .slice (some ⟨N, 0, none⟩) 1 1) (hN : w.heap.size = N)
    (h : ∀ a' n' cap' w', n' = xs.length + 1 → recSh.Own 41 w' base (.slice a' n' cap') (xs ++ [r]) → Below base w w' → wpList Tryz.prog ops Q rest (act.put o.dst (.slice a' n' cap')) w') :
    wpList Tryz.prog ops Q (o :: rest) act (w.alloc (.cells #[.int .i64 r.kind, .int .i64 r.batch, .string r.key, .string r.val, .int .i64 r.cnt, .int .i64 r.sum] 41)) := by
  subst hN
  obtain ⟨i0, hi, hz0, hz1, hz2⟩ := info_parts Tryz.infoRec
  have hA : Below w.heap.size w (w.alloc (.cells (recSh.cells r).toArray 41)) := (Below.refl _ _).alloc (Nat.le_refl _) _
  refine recSh.wpList_app (P := Tryz.prog) hgd s x 97 41 ho Tryz.underlying97 hi hz0 hz1 hz2 rfl (by decide) (hown.later hA (Nat.le_refl _)) (Nat.le_trans hb hA.size) (Shape.Row.single recSh 41 w r) (by omega) hs hx ?_
  intro a' n' cap' w' hn' ho' hg
  refine h a' n' cap' w' hn' ho' ?_
  refine (hA.mono hb).trans ?_
  exact (Below.refl _ _).grown hg (Nat.le_trans hb hA.size) (fun g hg => (hown.blk g hg).1)

end Go.Proofs.YtimpokbcfjgdaaaGreatDoor
