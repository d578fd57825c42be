/-
  spec.ReadRec: the record of a text, or none. spec.ReadRec: the record of a text, or none. spec.ReadRec: the record of a text, or none. spec.ReadRec at every text: the right record of which ShowRec makes it, or none.
-/
import Derived.Test.YtkcjlalkniaapaaDoorReadSpec
namespace Go.Proofs.YtkcjlalkniaapaaDoor
open Go.RowKit
open Plain


set_option maxRecDepth 100000 in
set_option maxHeartbeats 4000000 in
theorem sread_4_yes (s s1 s2 S : ByteArray) (a m b : Nat) (key val left left2 : ByteArray) (o1 o2 : Bool) (hs : s.size ≤ 1048576) (ha : a ≤ s.size) (hab : a + b ≤ s.size) (HN : Hid (s.extract a s.size = s1)) (HE : Hid (s.extract (a + b) s.size = s2)) (h1 : ((a : Int) == 0) = false) (h2 : ((b : Int) == 0) = false) (h0 : ¬ s.size = 0)
    (HR : Hid (Ans 47 #[.string s] (.tuple #[.int .i64 4, .int .i64 a]))) (HR2 : Hid (Ans 47 #[.string s1] (.tuple #[.int .i64 m, .int .i64 b]))) (HK : Hid (Ans 68 #[.string s2] (.tuple #[.string key, .string left, .bool o1]))) (HL : Hid (Ans 68 #[.string left] (.tuple #[.string val, .string left2, .bool o2])))
    (HSH : Hid (Ans 52 #[.agg #[.int .i64 4, .int .i64 m, .string key, .string val, .int .i64 0, .int .i64 0]] (.string S))) (hE : (S.toList == s.toList) = true) (w : World) :
    Calls Tryd.prog 42 #[.string s] w fun e w' => e = .returned (.tuple #[.agg #[.int .i64 4, .int .i64 m, .string key, .string val, .int .i64 0, .int .i64 0], .bool true]) ∧ Below w.heap.size w w' := by
  obtain ⟨W0, hW⟩ : ∃ W0, W0 = w.alloc (.cells #[.int .i64 0, .int .i64 0, .string ⟨#[]⟩, .string ⟨#[]⟩, .int .i64 0, .int .i64 0] 33) := ⟨_, rfl⟩
  have HRC := hide (fun W h => res_cells w W0 W hW h)
  have t0 := not_empty h0
  have t1 := nil_ne h0
  clear h0
  go_enter Tryd.func42, Tryd.ntmps42
  go_wp2_with fail
  rw [← hW]
  clear hW
  refine (HR.out _).mono ?_
  rintro e w1 ⟨rfl, hb1⟩
  have HB1 := hide hb1
  clear hb1 HR
  go_wp2_with fail
  rw [HN.out]
  refine (HR2.out _).mono ?_
  rintro e w2 ⟨rfl, hb2⟩
  have HV2 := hide (RvAt.start (HB1.out.trans (hb2.mono HB1.out.size)) 4 m ⟨#[]⟩ ⟨#[]⟩ 0 0)
  obtain ⟨D, hD⟩ : ∃ D, w2.heap.size = D := ⟨_, rfl⟩
  rw [hD] at HV2
  clear hb2 HB1 HR2
  go_wp2_with fail
  rw [HE.out]
  clear hD
  refine (HK.out _).mono ?_
  rintro e w3 ⟨rfl, hb3⟩
  have HV3 := hide (HV2.out.later hb3)
  clear HV2 hb3 HK
  go_wp2_with fail
  refine (HL.out _).mono ?_
  rintro e w4 ⟨rfl, hb4⟩
  have HV4 := hide (HV3.out.later hb4)
  clear HV3 hb4 HL
  obtain ⟨x0, x1, x2, x3, x4, x5⟩ := HV4.out.cells
  have f2 := HV4.out.free 2
  have f3 := HV4.out.free 3
  have HV4b := hide ((HV4.out.setKey key).setVal val)
  clear HV4
  go_wp2_with fail
  refine (HSH.out _).mono ?_
  rintro e w5 ⟨rfl, hb5⟩
  have HV5 := hide (HV4b.out.later hb5)
  clear HV4b hb5 HSH x0 x1 x2 x3 x4 x5
  obtain ⟨x0, x1, x2, x3, x4, x5⟩ := HV5.out.cells
  obtain ⟨hb6, hf6, hrow⟩ := HRC.out w5 HV5.out.bel
  have HB6 := hide hb6
  have g0 := hf6 0
  have g1 := hf6 1
  have g2 := hf6 2
  have g3 := hf6 3
  have g4 := hf6 4
  have g5 := hf6 5
  have y0 : w5.cell? ⟨w.heap.size, 0, none⟩ = _ := cell_of_row w5 _ 0 _ _ _ hrow
  have y1 : w5.cell? ⟨w.heap.size, 1, none⟩ = _ := cell_of_row w5 _ 1 _ _ _ hrow
  have y2 : w5.cell? ⟨w.heap.size, 2, none⟩ = _ := cell_of_row w5 _ 2 _ _ _ hrow
  have y3 : w5.cell? ⟨w.heap.size, 3, none⟩ = _ := cell_of_row w5 _ 3 _ _ _ hrow
  have y4 : w5.cell? ⟨w.heap.size, 4, none⟩ = _ := cell_of_row w5 _ 4 _ _ _ hrow
  have y5 : w5.cell? ⟨w.heap.size, 5, none⟩ = _ := cell_of_row w5 _ 5 _ _ _ hrow
  clear hb6 hf6 hrow HRC
  clear HV5
  go_wp2
  refine bodyPost_ret (v := .tuple #[.agg #[.int .i64 4, .int .i64 m, .string key, .string val, .int .i64 0, .int .i64 0], .bool true]) (by simp [results, Tryd.results42, go_sem, *]) rfl ⟨rfl, ?_⟩
  iterate 6 (refine Below.setCell ?_ (by exact Nat.le_refl _) _)
  exact HB6.out

set_option maxRecDepth 100000 in
set_option maxHeartbeats 4000000 in
theorem sread_4_no (s s1 s2 S : ByteArray) (a m b : Nat) (key val left left2 : ByteArray) (o1 o2 : Bool) (hs : s.size ≤ 1048576) (ha : a ≤ s.size) (hab : a + b ≤ s.size) (HN : Hid (s.extract a s.size = s1)) (HE : Hid (s.extract (a + b) s.size = s2)) (h1 : ((a : Int) == 0) = false) (h2 : ((b : Int) == 0) = false) (h0 : ¬ s.size = 0)
    (HR : Hid (Ans 47 #[.string s] (.tuple #[.int .i64 4, .int .i64 a]))) (HR2 : Hid (Ans 47 #[.string s1] (.tuple #[.int .i64 m, .int .i64 b]))) (HK : Hid (Ans 68 #[.string s2] (.tuple #[.string key, .string left, .bool o1]))) (HL : Hid (Ans 68 #[.string left] (.tuple #[.string val, .string left2, .bool o2])))
    (HSH : Hid (Ans 52 #[.agg #[.int .i64 4, .int .i64 m, .string key, .string val, .int .i64 0, .int .i64 0]] (.string S))) (hE : (S.toList == s.toList) = false) (w : World) :
    Calls Tryd.prog 42 #[.string s] w fun e w' => e = .returned (.tuple #[.agg #[.int .i64 0, .int .i64 0, .string ⟨#[]⟩, .string ⟨#[]⟩, .int .i64 0, .int .i64 0], .bool false]) ∧ Below w.heap.size w w' := by
  obtain ⟨W0, hW⟩ : ∃ W0, W0 = w.alloc (.cells #[.int .i64 0, .int .i64 0, .string ⟨#[]⟩, .string ⟨#[]⟩, .int .i64 0, .int .i64 0] 33) := ⟨_, rfl⟩
  have HRC := hide (fun W h => res_cells w W0 W hW h)
  have t0 := not_empty h0
  have t1 := nil_ne h0
  clear h0
  go_enter Tryd.func42, Tryd.ntmps42
  go_wp2_with fail
  rw [← hW]
  clear hW
  refine (HR.out _).mono ?_
  rintro e w1 ⟨rfl, hb1⟩
  have HB1 := hide hb1
  clear hb1 HR
  go_wp2_with fail
  rw [HN.out]
  refine (HR2.out _).mono ?_
  rintro e w2 ⟨rfl, hb2⟩
  have HV2 := hide (RvAt.start (HB1.out.trans (hb2.mono HB1.out.size)) 4 m ⟨#[]⟩ ⟨#[]⟩ 0 0)
  obtain ⟨D, hD⟩ : ∃ D, w2.heap.size = D := ⟨_, rfl⟩
  rw [hD] at HV2
  clear hb2 HB1 HR2
  go_wp2_with fail
  rw [HE.out]
  clear hD
  refine (HK.out _).mono ?_
  rintro e w3 ⟨rfl, hb3⟩
  have HV3 := hide (HV2.out.later hb3)
  clear HV2 hb3 HK
  go_wp2_with fail
  refine (HL.out _).mono ?_
  rintro e w4 ⟨rfl, hb4⟩
  have HV4 := hide (HV3.out.later hb4)
  clear HV3 hb4 HL
  obtain ⟨x0, x1, x2, x3, x4, x5⟩ := HV4.out.cells
  have f2 := HV4.out.free 2
  have f3 := HV4.out.free 3
  have HV4b := hide ((HV4.out.setKey key).setVal val)
  clear HV4
  go_wp2_with fail
  refine (HSH.out _).mono ?_
  rintro e w5 ⟨rfl, hb5⟩
  have HV5 := hide (HV4b.out.later hb5)
  clear HV4b hb5 HSH x0 x1 x2 x3 x4 x5
  obtain ⟨x0, x1, x2, x3, x4, x5⟩ := HV5.out.cells
  obtain ⟨hb6, hf6, hrow⟩ := HRC.out w5 HV5.out.bel
  have HB6 := hide hb6
  have g0 := hf6 0
  have g1 := hf6 1
  have g2 := hf6 2
  have g3 := hf6 3
  have g4 := hf6 4
  have g5 := hf6 5
  have y0 : w5.cell? ⟨w.heap.size, 0, none⟩ = _ := cell_of_row w5 _ 0 _ _ _ hrow
  have y1 : w5.cell? ⟨w.heap.size, 1, none⟩ = _ := cell_of_row w5 _ 1 _ _ _ hrow
  have y2 : w5.cell? ⟨w.heap.size, 2, none⟩ = _ := cell_of_row w5 _ 2 _ _ _ hrow
  have y3 : w5.cell? ⟨w.heap.size, 3, none⟩ = _ := cell_of_row w5 _ 3 _ _ _ hrow
  have y4 : w5.cell? ⟨w.heap.size, 4, none⟩ = _ := cell_of_row w5 _ 4 _ _ _ hrow
  have y5 : w5.cell? ⟨w.heap.size, 5, none⟩ = _ := cell_of_row w5 _ 5 _ _ _ hrow
  clear hb6 hf6 hrow HRC
  clear HV5
  go_wp2
  refine bodyPost_ret (v := .tuple #[.agg #[.int .i64 0, .int .i64 0, .string ⟨#[]⟩, .string ⟨#[]⟩, .int .i64 0, .int .i64 0], .bool false]) (by simp [results, Tryd.results42, go_sem, *]) rfl ⟨rfl, ?_⟩
  iterate 6 (refine Below.setCell ?_ (by exact Nat.le_refl _) _)
  exact HB6.out

end Go.Proofs.YtkcjlalkniaapaaDoor
namespace Go.Proofs.YtkcjlalkniaapaaDoor
open Go.RowKit
open Plain


set_option maxRecDepth 100000 in
set_option maxHeartbeats 4000000 in
theorem sread_2_yes (s s1 s2 S : ByteArray) (a m b : Nat) (key left : ByteArray) (o1 : Bool) (hs : s.size ≤ 1048576) (ha : a ≤ s.size) (hab : a + b ≤ s.size) (HN : Hid (s.extract a s.size = s1)) (HE : Hid (s.extract (a + b) s.size = s2)) (h1 : ((a : Int) == 0) = false) (h2 : ((b : Int) == 0) = false) (h0 : ¬ s.size = 0)
    (HR : Hid (Ans 47 #[.string s] (.tuple #[.int .i64 2, .int .i64 a]))) (HR2 : Hid (Ans 47 #[.string s1] (.tuple #[.int .i64 m, .int .i64 b]))) (HK : Hid (Ans 68 #[.string s2] (.tuple #[.string key, .string left, .bool o1])))
    (HSH : Hid (Ans 52 #[.agg #[.int .i64 2, .int .i64 m, .string key, .string ⟨#[]⟩, .int .i64 0, .int .i64 0]] (.string S))) (hE : (S.toList == s.toList) = true) (w : World) :
    Calls Tryd.prog 42 #[.string s] w fun e w' => e = .returned (.tuple #[.agg #[.int .i64 2, .int .i64 m, .string key, .string ⟨#[]⟩, .int .i64 0, .int .i64 0], .bool true]) ∧ Below w.heap.size w w' := by
  obtain ⟨W0, hW⟩ : ∃ W0, W0 = w.alloc (.cells #[.int .i64 0, .int .i64 0, .string ⟨#[]⟩, .string ⟨#[]⟩, .int .i64 0, .int .i64 0] 33) := ⟨_, rfl⟩
  have HRC := hide (fun W h => res_cells w W0 W hW h)
  have t0 := not_empty h0
  have t1 := nil_ne h0
  clear h0
  go_enter Tryd.func42, Tryd.ntmps42
  go_wp2_with fail
  rw [← hW]
  clear hW
  refine (HR.out _).mono ?_
  rintro e w1 ⟨rfl, hb1⟩
  have HB1 := hide hb1
  clear hb1 HR
  go_wp2_with fail
  rw [HN.out]
  refine (HR2.out _).mono ?_
  rintro e w2 ⟨rfl, hb2⟩
  have HV2 := hide (RvAt.start (HB1.out.trans (hb2.mono HB1.out.size)) 2 m ⟨#[]⟩ ⟨#[]⟩ 0 0)
  obtain ⟨D, hD⟩ : ∃ D, w2.heap.size = D := ⟨_, rfl⟩
  rw [hD] at HV2
  clear hb2 HB1 HR2
  go_wp2_with fail
  rw [HE.out]
  clear hD
  refine (HK.out _).mono ?_
  rintro e w4 ⟨rfl, hb4⟩
  have HV4 := hide (HV2.out.later hb4)
  clear HV2 hb4 HK
  obtain ⟨x0, x1, x2, x3, x4, x5⟩ := HV4.out.cells
  have f2 := HV4.out.free 2
  have HV4b := hide (HV4.out.setKey key)
  clear HV4
  go_wp2_with fail
  refine (HSH.out _).mono ?_
  rintro e w5 ⟨rfl, hb5⟩
  have HV5 := hide (HV4b.out.later hb5)
  clear HV4b hb5 HSH x0 x1 x2 x3 x4 x5
  obtain ⟨x0, x1, x2, x3, x4, x5⟩ := HV5.out.cells
  obtain ⟨hb6, hf6, hrow⟩ := HRC.out w5 HV5.out.bel
  have HB6 := hide hb6
  have g0 := hf6 0
  have g1 := hf6 1
  have g2 := hf6 2
  have g3 := hf6 3
  have g4 := hf6 4
  have g5 := hf6 5
  have y0 : w5.cell? ⟨w.heap.size, 0, none⟩ = _ := cell_of_row w5 _ 0 _ _ _ hrow
  have y1 : w5.cell? ⟨w.heap.size, 1, none⟩ = _ := cell_of_row w5 _ 1 _ _ _ hrow
  have y2 : w5.cell? ⟨w.heap.size, 2, none⟩ = _ := cell_of_row w5 _ 2 _ _ _ hrow
  have y3 : w5.cell? ⟨w.heap.size, 3, none⟩ = _ := cell_of_row w5 _ 3 _ _ _ hrow
  have y4 : w5.cell? ⟨w.heap.size, 4, none⟩ = _ := cell_of_row w5 _ 4 _ _ _ hrow
  have y5 : w5.cell? ⟨w.heap.size, 5, none⟩ = _ := cell_of_row w5 _ 5 _ _ _ hrow
  clear hb6 hf6 hrow HRC
  clear HV5
  go_wp2
  refine bodyPost_ret (v := .tuple #[.agg #[.int .i64 2, .int .i64 m, .string key, .string ⟨#[]⟩, .int .i64 0, .int .i64 0], .bool true]) (by simp [results, Tryd.results42, go_sem, *]) rfl ⟨rfl, ?_⟩
  iterate 6 (refine Below.setCell ?_ (by exact Nat.le_refl _) _)
  exact HB6.out

set_option maxRecDepth 100000 in
set_option maxHeartbeats 4000000 in
theorem sread_2_no (s s1 s2 S : ByteArray) (a m b : Nat) (key left : ByteArray) (o1 : Bool) (hs : s.size ≤ 1048576) (ha : a ≤ s.size) (hab : a + b ≤ s.size) (HN : Hid (s.extract a s.size = s1)) (HE : Hid (s.extract (a + b) s.size = s2)) (h1 : ((a : Int) == 0) = false) (h2 : ((b : Int) == 0) = false) (h0 : ¬ s.size = 0)
    (HR : Hid (Ans 47 #[.string s] (.tuple #[.int .i64 2, .int .i64 a]))) (HR2 : Hid (Ans 47 #[.string s1] (.tuple #[.int .i64 m, .int .i64 b]))) (HK : Hid (Ans 68 #[.string s2] (.tuple #[.string key, .string left, .bool o1])))
    (HSH : Hid (Ans 52 #[.agg #[.int .i64 2, .int .i64 m, .string key, .string ⟨#[]⟩, .int .i64 0, .int .i64 0]] (.string S))) (hE : (S.toList == s.toList) = false) (w : World) :
    Calls Tryd.prog 42 #[.string s] w fun e w' => e = .returned (.tuple #[.agg #[.int .i64 0, .int .i64 0, .string ⟨#[]⟩, .string ⟨#[]⟩, .int .i64 0, .int .i64 0], .bool false]) ∧ Below w.heap.size w w' := by
  obtain ⟨W0, hW⟩ : ∃ W0, W0 = w.alloc (.cells #[.int .i64 0, .int .i64 0, .string ⟨#[]⟩, .string ⟨#[]⟩, .int .i64 0, .int .i64 0] 33) := ⟨_, rfl⟩
  have HRC := hide (fun W h => res_cells w W0 W hW h)
  have t0 := not_empty h0
  have t1 := nil_ne h0
  clear h0
  go_enter Tryd.func42, Tryd.ntmps42
  go_wp2_with fail
  rw [← hW]
  clear hW
  refine (HR.out _).mono ?_
  rintro e w1 ⟨rfl, hb1⟩
  have HB1 := hide hb1
  clear hb1 HR
  go_wp2_with fail
  rw [HN.out]
  refine (HR2.out _).mono ?_
  rintro e w2 ⟨rfl, hb2⟩
  have HV2 := hide (RvAt.start (HB1.out.trans (hb2.mono HB1.out.size)) 2 m ⟨#[]⟩ ⟨#[]⟩ 0 0)
  obtain ⟨D, hD⟩ : ∃ D, w2.heap.size = D := ⟨_, rfl⟩
  rw [hD] at HV2
  clear hb2 HB1 HR2
  go_wp2_with fail
  rw [HE.out]
  clear hD
  refine (HK.out _).mono ?_
  rintro e w4 ⟨rfl, hb4⟩
  have HV4 := hide (HV2.out.later hb4)
  clear HV2 hb4 HK
  obtain ⟨x0, x1, x2, x3, x4, x5⟩ := HV4.out.cells
  have f2 := HV4.out.free 2
  have HV4b := hide (HV4.out.setKey key)
  clear HV4
  go_wp2_with fail
  refine (HSH.out _).mono ?_
  rintro e w5 ⟨rfl, hb5⟩
  have HV5 := hide (HV4b.out.later hb5)
  clear HV4b hb5 HSH x0 x1 x2 x3 x4 x5
  obtain ⟨x0, x1, x2, x3, x4, x5⟩ := HV5.out.cells
  obtain ⟨hb6, hf6, hrow⟩ := HRC.out w5 HV5.out.bel
  have HB6 := hide hb6
  have g0 := hf6 0
  have g1 := hf6 1
  have g2 := hf6 2
  have g3 := hf6 3
  have g4 := hf6 4
  have g5 := hf6 5
  have y0 : w5.cell? ⟨w.heap.size, 0, none⟩ = _ := cell_of_row w5 _ 0 _ _ _ hrow
  have y1 : w5.cell? ⟨w.heap.size, 1, none⟩ = _ := cell_of_row w5 _ 1 _ _ _ hrow
  have y2 : w5.cell? ⟨w.heap.size, 2, none⟩ = _ := cell_of_row w5 _ 2 _ _ _ hrow
  have y3 : w5.cell? ⟨w.heap.size, 3, none⟩ = _ := cell_of_row w5 _ 3 _ _ _ hrow
  have y4 : w5.cell? ⟨w.heap.size, 4, none⟩ = _ := cell_of_row w5 _ 4 _ _ _ hrow
  have y5 : w5.cell? ⟨w.heap.size, 5, none⟩ = _ := cell_of_row w5 _ 5 _ _ _ hrow
  clear hb6 hf6 hrow HRC
  clear HV5
  go_wp2
  refine bodyPost_ret (v := .tuple #[.agg #[.int .i64 0, .int .i64 0, .string ⟨#[]⟩, .string ⟨#[]⟩, .int .i64 0, .int .i64 0], .bool false]) (by simp [results, Tryd.results42, go_sem, *]) rfl ⟨rfl, ?_⟩
  iterate 6 (refine Below.setCell ?_ (by exact Nat.le_refl _) _)
  exact HB6.out

end Go.Proofs.YtkcjlalkniaapaaDoor
namespace Go.Proofs.YtkcjlalkniaapaaDoor
open Go.RowKit
open Plain


set_option maxRecDepth 100000 in
set_option maxHeartbeats 4000000 in
theorem sread_n_yes (s s1 s2 S : ByteArray) (a m b : Nat) (n p c x : Nat) (s3 : ByteArray) (o1 : Bool) (n1 : ((n : Int) == 1) = false) (n2 : ((n : Int) == 2) = false) (n4 : ((n : Int) == 4) = false) (hc : c ≤ s2.size) (hs : s.size ≤ 1048576) (ha : a ≤ s.size) (hab : a + b ≤ s.size) (HN : Hid (s.extract a s.size = s1)) (HE : Hid (s.extract (a + b) s.size = s2)) (h1 : ((a : Int) == 0) = false) (h2 : ((b : Int) == 0) = false) (h0 : ¬ s.size = 0)
    (HR : Hid (Ans 47 #[.string s] (.tuple #[.int .i64 n, .int .i64 a]))) (HR2 : Hid (Ans 47 #[.string s1] (.tuple #[.int .i64 m, .int .i64 b]))) (HK : Hid (Ans 47 #[.string s2] (.tuple #[.int .i64 p, .int .i64 c]))) (HC : Hid (s2.extract c s2.size = s3)) (HL : Hid (Ans 69 #[.string s3, .int .i64 4] (.tuple #[.int .i64 x, .bool o1])))
    (HSH : Hid (Ans 52 #[.agg #[.int .i64 n, .int .i64 m, .string ⟨#[]⟩, .string ⟨#[]⟩, .int .i64 p, .int .i64 x]] (.string S))) (hE : (S.toList == s.toList) = true) (w : World) :
    Calls Tryd.prog 42 #[.string s] w fun e w' => e = .returned (.tuple #[.agg #[.int .i64 n, .int .i64 m, .string ⟨#[]⟩, .string ⟨#[]⟩, .int .i64 p, .int .i64 x], .bool true]) ∧ Below w.heap.size w w' := by
  obtain ⟨W0, hW⟩ : ∃ W0, W0 = w.alloc (.cells #[.int .i64 0, .int .i64 0, .string ⟨#[]⟩, .string ⟨#[]⟩, .int .i64 0, .int .i64 0] 33) := ⟨_, rfl⟩
  have HRC := hide (fun W h => res_cells w W0 W hW h)
  have t0 := not_empty h0
  have t1 := nil_ne h0
  clear h0
  go_enter Tryd.func42, Tryd.ntmps42
  go_wp2_with fail
  rw [← hW]
  clear hW
  refine (HR.out _).mono ?_
  rintro e w1 ⟨rfl, hb1⟩
  have HB1 := hide hb1
  clear hb1 HR
  go_wp2_with fail
  rw [HN.out]
  refine (HR2.out _).mono ?_
  rintro e w2 ⟨rfl, hb2⟩
  have HV2 := hide (RvAt.start (HB1.out.trans (hb2.mono HB1.out.size)) n m ⟨#[]⟩ ⟨#[]⟩ 0 0)
  obtain ⟨D, hD⟩ : ∃ D, w2.heap.size = D := ⟨_, rfl⟩
  rw [hD] at HV2
  clear hb2 HB1 HR2
  go_wp2_with fail
  rw [HE.out]
  clear hD
  refine (HK.out _).mono ?_
  rintro e w3 ⟨rfl, hb3⟩
  have HV3 := hide (HV2.out.later hb3)
  clear HV2 hb3 HK
  go_wp2_with fail
  rw [HC.out]
  refine (HL.out _).mono ?_
  rintro e w4 ⟨rfl, hb4⟩
  have HV4 := hide (HV3.out.later hb4)
  clear HV3 hb4 HL
  obtain ⟨x0, x1, x2, x3, x4, x5⟩ := HV4.out.cells
  have f4 := HV4.out.free 4
  have f5 := HV4.out.free 5
  have HV4b := hide ((HV4.out.setCnt p).setSum x)
  clear HV4
  go_wp2_with fail
  refine (HSH.out _).mono ?_
  rintro e w5 ⟨rfl, hb5⟩
  have HV5 := hide (HV4b.out.later hb5)
  clear HV4b hb5 HSH x0 x1 x2 x3 x4 x5
  obtain ⟨x0, x1, x2, x3, x4, x5⟩ := HV5.out.cells
  obtain ⟨hb6, hf6, hrow⟩ := HRC.out w5 HV5.out.bel
  have HB6 := hide hb6
  have g0 := hf6 0
  have g1 := hf6 1
  have g2 := hf6 2
  have g3 := hf6 3
  have g4 := hf6 4
  have g5 := hf6 5
  have y0 : w5.cell? ⟨w.heap.size, 0, none⟩ = _ := cell_of_row w5 _ 0 _ _ _ hrow
  have y1 : w5.cell? ⟨w.heap.size, 1, none⟩ = _ := cell_of_row w5 _ 1 _ _ _ hrow
  have y2 : w5.cell? ⟨w.heap.size, 2, none⟩ = _ := cell_of_row w5 _ 2 _ _ _ hrow
  have y3 : w5.cell? ⟨w.heap.size, 3, none⟩ = _ := cell_of_row w5 _ 3 _ _ _ hrow
  have y4 : w5.cell? ⟨w.heap.size, 4, none⟩ = _ := cell_of_row w5 _ 4 _ _ _ hrow
  have y5 : w5.cell? ⟨w.heap.size, 5, none⟩ = _ := cell_of_row w5 _ 5 _ _ _ hrow
  clear hb6 hf6 hrow HRC
  clear HV5
  go_wp2
  refine bodyPost_ret (v := .tuple #[.agg #[.int .i64 n, .int .i64 m, .string ⟨#[]⟩, .string ⟨#[]⟩, .int .i64 p, .int .i64 x], .bool true]) (by simp [results, Tryd.results42, go_sem, *]) rfl ⟨rfl, ?_⟩
  iterate 6 (refine Below.setCell ?_ (by exact Nat.le_refl _) _)
  exact HB6.out

set_option maxRecDepth 100000 in
set_option maxHeartbeats 4000000 in
theorem sread_n_no (s s1 s2 S : ByteArray) (a m b : Nat) (n p c x : Nat) (s3 : ByteArray) (o1 : Bool) (n1 : ((n : Int) == 1) = false) (n2 : ((n : Int) == 2) = false) (n4 : ((n : Int) == 4) = false) (hc : c ≤ s2.size) (hs : s.size ≤ 1048576) (ha : a ≤ s.size) (hab : a + b ≤ s.size) (HN : Hid (s.extract a s.size = s1)) (HE : Hid (s.extract (a + b) s.size = s2)) (h1 : ((a : Int) == 0) = false) (h2 : ((b : Int) == 0) = false) (h0 : ¬ s.size = 0)
    (HR : Hid (Ans 47 #[.string s] (.tuple #[.int .i64 n, .int .i64 a]))) (HR2 : Hid (Ans 47 #[.string s1] (.tuple #[.int .i64 m, .int .i64 b]))) (HK : Hid (Ans 47 #[.string s2] (.tuple #[.int .i64 p, .int .i64 c]))) (HC : Hid (s2.extract c s2.size = s3)) (HL : Hid (Ans 69 #[.string s3, .int .i64 4] (.tuple #[.int .i64 x, .bool o1])))
    (HSH : Hid (Ans 52 #[.agg #[.int .i64 n, .int .i64 m, .string ⟨#[]⟩, .string ⟨#[]⟩, .int .i64 p, .int .i64 x]] (.string S))) (hE : (S.toList == s.toList) = false) (w : World) :
    Calls Tryd.prog 42 #[.string s] w fun e w' => e = .returned (.tuple #[.agg #[.int .i64 0, .int .i64 0, .string ⟨#[]⟩, .string ⟨#[]⟩, .int .i64 0, .int .i64 0], .bool false]) ∧ Below w.heap.size w w' := by
  obtain ⟨W0, hW⟩ : ∃ W0, W0 = w.alloc (.cells #[.int .i64 0, .int .i64 0, .string ⟨#[]⟩, .string ⟨#[]⟩, .int .i64 0, .int .i64 0] 33) := ⟨_, rfl⟩
  have HRC := hide (fun W h => res_cells w W0 W hW h)
  have t0 := not_empty h0
  have t1 := nil_ne h0
  clear h0
  go_enter Tryd.func42, Tryd.ntmps42
  go_wp2_with fail
  rw [← hW]
  clear hW
  refine (HR.out _).mono ?_
  rintro e w1 ⟨rfl, hb1⟩
  have HB1 := hide hb1
  clear hb1 HR
  go_wp2_with fail
  rw [HN.out]
  refine (HR2.out _).mono ?_
  rintro e w2 ⟨rfl, hb2⟩
  have HV2 := hide (RvAt.start (HB1.out.trans (hb2.mono HB1.out.size)) n m ⟨#[]⟩ ⟨#[]⟩ 0 0)
  obtain ⟨D, hD⟩ : ∃ D, w2.heap.size = D := ⟨_, rfl⟩
  rw [hD] at HV2
  clear hb2 HB1 HR2
  go_wp2_with fail
  rw [HE.out]
  clear hD
  refine (HK.out _).mono ?_
  rintro e w3 ⟨rfl, hb3⟩
  have HV3 := hide (HV2.out.later hb3)
  clear HV2 hb3 HK
  go_wp2_with fail
  rw [HC.out]
  refine (HL.out _).mono ?_
  rintro e w4 ⟨rfl, hb4⟩
  have HV4 := hide (HV3.out.later hb4)
  clear HV3 hb4 HL
  obtain ⟨x0, x1, x2, x3, x4, x5⟩ := HV4.out.cells
  have f4 := HV4.out.free 4
  have f5 := HV4.out.free 5
  have HV4b := hide ((HV4.out.setCnt p).setSum x)
  clear HV4
  go_wp2_with fail
  refine (HSH.out _).mono ?_
  rintro e w5 ⟨rfl, hb5⟩
  have HV5 := hide (HV4b.out.later hb5)
  clear HV4b hb5 HSH x0 x1 x2 x3 x4 x5
  obtain ⟨x0, x1, x2, x3, x4, x5⟩ := HV5.out.cells
  obtain ⟨hb6, hf6, hrow⟩ := HRC.out w5 HV5.out.bel
  have HB6 := hide hb6
  have g0 := hf6 0
  have g1 := hf6 1
  have g2 := hf6 2
  have g3 := hf6 3
  have g4 := hf6 4
  have g5 := hf6 5
  have y0 : w5.cell? ⟨w.heap.size, 0, none⟩ = _ := cell_of_row w5 _ 0 _ _ _ hrow
  have y1 : w5.cell? ⟨w.heap.size, 1, none⟩ = _ := cell_of_row w5 _ 1 _ _ _ hrow
  have y2 : w5.cell? ⟨w.heap.size, 2, none⟩ = _ := cell_of_row w5 _ 2 _ _ _ hrow
  have y3 : w5.cell? ⟨w.heap.size, 3, none⟩ = _ := cell_of_row w5 _ 3 _ _ _ hrow
  have y4 : w5.cell? ⟨w.heap.size, 4, none⟩ = _ := cell_of_row w5 _ 4 _ _ _ hrow
  have y5 : w5.cell? ⟨w.heap.size, 5, none⟩ = _ := cell_of_row w5 _ 5 _ _ _ hrow
  clear hb6 hf6 hrow HRC
  clear HV5
  go_wp2
  refine bodyPost_ret (v := .tuple #[.agg #[.int .i64 0, .int .i64 0, .string ⟨#[]⟩, .string ⟨#[]⟩, .int .i64 0, .int .i64 0], .bool false]) (by simp [results, Tryd.results42, go_sem, *]) rfl ⟨rfl, ?_⟩
  iterate 6 (refine Below.setCell ?_ (by exact Nat.le_refl _) _)
  exact HB6.out

end Go.Proofs.YtkcjlalkniaapaaDoor
namespace Go.Proofs.YtkcjlalkniaapaaDoor
open Go.RowKit
open Plain

set_option maxRecDepth 100000 in
set_option maxHeartbeats 4000000 in
theorem sread_kind (s s1 : ByteArray) (n a m b : Nat) (ha : a ≤ s.size) (HN : Hid (s.extract a s.size = s1)) (h1 : ((a : Int) == 0) = true)
    (HR : Hid (Ans 47 #[.string s] (.tuple #[.int .i64 n, .int .i64 a]))) (HR2 : Hid (Ans 47 #[.string s1] (.tuple #[.int .i64 m, .int .i64 b]))) (w : World) :
    Calls Tryd.prog 42 #[.string s] w fun e w' => e = .returned (.tuple #[.agg #[.int .i64 0, .int .i64 0, .string ⟨#[]⟩, .string ⟨#[]⟩, .int .i64 0, .int .i64 0], .bool false]) ∧ Below w.heap.size w w' := by
  obtain ⟨W0, hW⟩ : ∃ W0, W0 = w.alloc (.cells #[.int .i64 0, .int .i64 0, .string ⟨#[]⟩, .string ⟨#[]⟩, .int .i64 0, .int .i64 0] 33) := ⟨_, rfl⟩
  have HRC := hide (fun W h => res_cells w W0 W hW h)
  go_enter Tryd.func42, Tryd.ntmps42
  go_wp2_with fail
  rw [← hW]
  clear hW
  refine (HR.out _).mono ?_
  rintro e w1 ⟨rfl, hb1⟩
  have HB1 := hide hb1
  clear hb1 HR
  go_wp2_with fail
  rw [HN.out]
  refine (HR2.out _).mono ?_
  rintro e w5 ⟨rfl, hb2⟩
  obtain ⟨hb6, hf6, hrow⟩ := HRC.out w5 (HB1.out.trans (hb2.mono HB1.out.size))
  have HB6 := hide hb6
  have g0 := hf6 0
  have g1 := hf6 1
  have g2 := hf6 2
  have g3 := hf6 3
  have g4 := hf6 4
  have g5 := hf6 5
  have y0 : w5.cell? ⟨w.heap.size, 0, none⟩ = _ := cell_of_row w5 _ 0 _ _ _ hrow
  have y1 : w5.cell? ⟨w.heap.size, 1, none⟩ = _ := cell_of_row w5 _ 1 _ _ _ hrow
  have y2 : w5.cell? ⟨w.heap.size, 2, none⟩ = _ := cell_of_row w5 _ 2 _ _ _ hrow
  have y3 : w5.cell? ⟨w.heap.size, 3, none⟩ = _ := cell_of_row w5 _ 3 _ _ _ hrow
  have y4 : w5.cell? ⟨w.heap.size, 4, none⟩ = _ := cell_of_row w5 _ 4 _ _ _ hrow
  have y5 : w5.cell? ⟨w.heap.size, 5, none⟩ = _ := cell_of_row w5 _ 5 _ _ _ hrow
  clear hb6 hf6 hrow HRC hb2 HB1 HR2
  go_wp2
  refine bodyPost_ret (v := .tuple #[.agg #[.int .i64 0, .int .i64 0, .string ⟨#[]⟩, .string ⟨#[]⟩, .int .i64 0, .int .i64 0], .bool false]) (by simp [results, Tryd.results42, go_sem, *]) rfl ⟨rfl, ?_⟩
  iterate 6 (refine Below.setCell ?_ (by exact Nat.le_refl _) _)
  exact HB6.out

set_option maxRecDepth 100000 in
set_option maxHeartbeats 4000000 in
theorem sread_batch (s s1 : ByteArray) (n a m b : Nat) (ha : a ≤ s.size) (HN : Hid (s.extract a s.size = s1)) (h1 : ((a : Int) == 0) = false) (h2 : ((b : Int) == 0) = true)
    (HR : Hid (Ans 47 #[.string s] (.tuple #[.int .i64 n, .int .i64 a]))) (HR2 : Hid (Ans 47 #[.string s1] (.tuple #[.int .i64 m, .int .i64 b]))) (w : World) :
    Calls Tryd.prog 42 #[.string s] w fun e w' => e = .returned (.tuple #[.agg #[.int .i64 0, .int .i64 0, .string ⟨#[]⟩, .string ⟨#[]⟩, .int .i64 0, .int .i64 0], .bool false]) ∧ Below w.heap.size w w' := by
  obtain ⟨W0, hW⟩ : ∃ W0, W0 = w.alloc (.cells #[.int .i64 0, .int .i64 0, .string ⟨#[]⟩, .string ⟨#[]⟩, .int .i64 0, .int .i64 0] 33) := ⟨_, rfl⟩
  have HRC := hide (fun W h => res_cells w W0 W hW h)
  go_enter Tryd.func42, Tryd.ntmps42
  go_wp2_with fail
  rw [← hW]
  clear hW
  refine (HR.out _).mono ?_
  rintro e w1 ⟨rfl, hb1⟩
  have HB1 := hide hb1
  clear hb1 HR
  go_wp2_with fail
  rw [HN.out]
  refine (HR2.out _).mono ?_
  rintro e w5 ⟨rfl, hb2⟩
  obtain ⟨hb6, hf6, hrow⟩ := HRC.out w5 (HB1.out.trans (hb2.mono HB1.out.size))
  have HB6 := hide hb6
  have g0 := hf6 0
  have g1 := hf6 1
  have g2 := hf6 2
  have g3 := hf6 3
  have g4 := hf6 4
  have g5 := hf6 5
  have y0 : w5.cell? ⟨w.heap.size, 0, none⟩ = _ := cell_of_row w5 _ 0 _ _ _ hrow
  have y1 : w5.cell? ⟨w.heap.size, 1, none⟩ = _ := cell_of_row w5 _ 1 _ _ _ hrow
  have y2 : w5.cell? ⟨w.heap.size, 2, none⟩ = _ := cell_of_row w5 _ 2 _ _ _ hrow
  have y3 : w5.cell? ⟨w.heap.size, 3, none⟩ = _ := cell_of_row w5 _ 3 _ _ _ hrow
  have y4 : w5.cell? ⟨w.heap.size, 4, none⟩ = _ := cell_of_row w5 _ 4 _ _ _ hrow
  have y5 : w5.cell? ⟨w.heap.size, 5, none⟩ = _ := cell_of_row w5 _ 5 _ _ _ hrow
  clear hb6 hf6 hrow HRC hb2 HB1 HR2
  go_wp2
  refine bodyPost_ret (v := .tuple #[.agg #[.int .i64 0, .int .i64 0, .string ⟨#[]⟩, .string ⟨#[]⟩, .int .i64 0, .int .i64 0], .bool false]) (by simp [results, Tryd.results42, go_sem, *]) rfl ⟨rfl, ?_⟩
  iterate 6 (refine Below.setCell ?_ (by exact Nat.le_refl _) _)
  exact HB6.out

theorem sread_base (s : ByteArray) (hs : s.size ≤ 1048576) (ha : (rv s).2 ≠ 0) (hb : (rv (numT s)).2 ≠ 0) :
    (rv s).2 ≤ s.size ∧ (rv s).2 + (rv (numT s)).2 ≤ s.size ∧ Hid (Ans 47 #[.string (numT s)] (.tuple #[.int .i64 ((rv (numT s)).1 : Nat), .int .i64 ((rv (numT s)).2 : Nat)])) ∧ (¬ s.size = 0) ∧ ((((rv s).2 : Nat) : Int) == 0) = false ∧ ((((rv (numT s)).2 : Nat) : Int) == 0) = false ∧ (numT (numT s)).size ≤ 1048576 := by
  have b1 := rv_bd s
  have b2 := rv_bd (numT s)
  have z1 := numT_size s
  have z2 := numT_size (numT s)
  exact ⟨b1.2.2, by omega, hide (specRV_any (numT s) (by omega)), by omega, by simp; omega, by simp; omega, by omega⟩

theorem sread_1 (s : ByteArray) (hs : s.size ≤ 1048576) (hk : (rv s).1 = 1) (ha : (rv s).2 ≠ 0) (hb : (rv (numT s)).2 ≠ 0) : ReadsR 42 s := by
  obtain ⟨q1, q2, q3, q4, q5, q6, q7⟩ := sread_base s hs ha hb
  have e1 : (((rv s).1 : Nat) : Int) = 1 := by omega
  have HR := hide (specRV_any s hs)
  rw [e1] at HR
  have hp : sparse s = ⟨1, (rv (numT s)).1, t5V (numT (numT s)), t5V (t5R (numT (numT s))), 0, 0⟩ := by unfold sparse; rw [if_pos (by omega), e1]
  have HSH := hide (specShow_any (sparse s) (by have := sparse_size s; unfold maxLen; omega))
  have HK := hide (l5Text_any (numT (numT s)) q7)
  have HL := hide (l5Text_any (t5R (numT (numT s))) (by have := t5R_size (numT (numT s)); omega))
  by_cases he : showS (sparse s) = s
  · refine ⟨sparse s, true, RR_same s q4 he, fun w => ?_⟩
    rw [hp] at HSH ⊢
    rw [hp] at he
    simp only at HSH ⊢
    exact sread_1_yes s (numT s) (numT (numT s)) _ _ _ _ _ _ _ _ _ _ hs q1 q2 (hide rfl) (hide (rest_eq s)) q5 q6 q4 HR q3 HK HL HSH (str_eq _ _ he) w
  · refine ⟨zeroR, false, RR_other s he, fun w => ?_⟩
    rw [hp] at HSH
    rw [hp] at he
    simp only at HSH
    exact sread_1_no s (numT s) (numT (numT s)) _ _ _ _ _ _ _ _ _ _ hs q1 q2 (hide rfl) (hide (rest_eq s)) q5 q6 q4 HR q3 HK HL HSH (str_ne _ _ he) w

theorem sread_4 (s : ByteArray) (hs : s.size ≤ 1048576) (hk : (rv s).1 = 4) (ha : (rv s).2 ≠ 0) (hb : (rv (numT s)).2 ≠ 0) : ReadsR 42 s := by
  obtain ⟨q1, q2, q3, q4, q5, q6, q7⟩ := sread_base s hs ha hb
  have e1 : (((rv s).1 : Nat) : Int) = 4 := by omega
  have HR := hide (specRV_any s hs)
  rw [e1] at HR
  have hp : sparse s = ⟨4, (rv (numT s)).1, t5V (numT (numT s)), t5V (t5R (numT (numT s))), 0, 0⟩ := by unfold sparse; rw [if_pos (by omega), e1]
  have HSH := hide (specShow_any (sparse s) (by have := sparse_size s; unfold maxLen; omega))
  have HK := hide (l5Text_any (numT (numT s)) q7)
  have HL := hide (l5Text_any (t5R (numT (numT s))) (by have := t5R_size (numT (numT s)); omega))
  by_cases he : showS (sparse s) = s
  · refine ⟨sparse s, true, RR_same s q4 he, fun w => ?_⟩
    rw [hp] at HSH ⊢
    rw [hp] at he
    simp only at HSH ⊢
    exact sread_4_yes s (numT s) (numT (numT s)) _ _ _ _ _ _ _ _ _ _ hs q1 q2 (hide rfl) (hide (rest_eq s)) q5 q6 q4 HR q3 HK HL HSH (str_eq _ _ he) w
  · refine ⟨zeroR, false, RR_other s he, fun w => ?_⟩
    rw [hp] at HSH
    rw [hp] at he
    simp only at HSH
    exact sread_4_no s (numT s) (numT (numT s)) _ _ _ _ _ _ _ _ _ _ hs q1 q2 (hide rfl) (hide (rest_eq s)) q5 q6 q4 HR q3 HK HL HSH (str_ne _ _ he) w

theorem sread_2 (s : ByteArray) (hs : s.size ≤ 1048576) (hk : (rv s).1 = 2) (ha : (rv s).2 ≠ 0) (hb : (rv (numT s)).2 ≠ 0) : ReadsR 42 s := by
  obtain ⟨q1, q2, q3, q4, q5, q6, q7⟩ := sread_base s hs ha hb
  have e1 : (((rv s).1 : Nat) : Int) = 2 := by omega
  have HR := hide (specRV_any s hs)
  rw [e1] at HR
  have hp : sparse s = ⟨2, (rv (numT s)).1, t5V (numT (numT s)), ⟨#[]⟩, 0, 0⟩ := by unfold sparse; rw [if_neg (by omega), if_pos hk, e1]
  have HSH := hide (specShow_any (sparse s) (by have := sparse_size s; unfold maxLen; omega))
  have HK := hide (l5Text_any (numT (numT s)) q7)
  by_cases he : showS (sparse s) = s
  · refine ⟨sparse s, true, RR_same s q4 he, fun w => ?_⟩
    rw [hp] at HSH ⊢
    rw [hp] at he
    simp only at HSH ⊢
    exact sread_2_yes s (numT s) (numT (numT s)) _ _ _ _ _ _ _ hs q1 q2 (hide rfl) (hide (rest_eq s)) q5 q6 q4 HR q3 HK HSH (str_eq _ _ he) w
  · refine ⟨zeroR, false, RR_other s he, fun w => ?_⟩
    rw [hp] at HSH
    rw [hp] at he
    simp only at HSH
    exact sread_2_no s (numT s) (numT (numT s)) _ _ _ _ _ _ _ hs q1 q2 (hide rfl) (hide (rest_eq s)) q5 q6 q4 HR q3 HK HSH (str_ne _ _ he) w

theorem sread_n (s : ByteArray) (hs : s.size ≤ 1048576) (k14 : ¬ ((rv s).1 = 1 ∨ (rv s).1 = 4)) (k2 : (rv s).1 ≠ 2) (ha : (rv s).2 ≠ 0) (hb : (rv (numT s)).2 ≠ 0) : ReadsR 42 s := by
  obtain ⟨q1, q2, q3, q4, q5, q6, q7⟩ := sread_base s hs ha hb
  have HR := hide (specRV_any s hs)
  have n1 : ((((rv s).1 : Nat) : Int) == 1) = false := by simp; omega
  have n2 : ((((rv s).1 : Nat) : Int) == 2) = false := by simp; omega
  have n4 : ((((rv s).1 : Nat) : Int) == 4) = false := by simp; omega
  have hp : sparse s = ⟨(rv s).1, (rv (numT s)).1, ⟨#[]⟩, ⟨#[]⟩, (rv (numT (numT s))).1, sumV (numT (numT (numT s)))⟩ := by unfold sparse; rw [if_neg k14, if_neg k2]
  have HSH := hide (specShow_any (sparse s) (by have := sparse_size s; unfold maxLen; omega))
  have HK := hide (specRV_any (numT (numT s)) q7)
  have HL := hide (specRF4_any (numT (numT (numT s))) (by rw [numT_size]; omega))
  have hc := (rv_bd (numT (numT s))).2.2
  by_cases he : showS (sparse s) = s
  · refine ⟨sparse s, true, RR_same s q4 he, fun w => ?_⟩
    rw [hp] at HSH ⊢
    rw [hp] at he
    simp only at HSH ⊢
    exact sread_n_yes s (numT s) (numT (numT s)) _ _ _ _ _ _ _ _ (numT (numT (numT s))) _ n1 n2 n4 hc hs q1 q2 (hide rfl) (hide (rest_eq s)) q5 q6 q4 HR q3 HK (hide rfl) HL HSH (str_eq _ _ he) w
  · refine ⟨zeroR, false, RR_other s he, fun w => ?_⟩
    rw [hp] at HSH
    rw [hp] at he
    simp only at HSH
    exact sread_n_no s (numT s) (numT (numT s)) _ _ _ _ _ _ _ _ (numT (numT (numT s))) _ n1 n2 n4 hc hs q1 q2 (hide rfl) (hide (rest_eq s)) q5 q6 q4 HR q3 HK (hide rfl) HL HSH (str_ne _ _ he) w

theorem specRead_any (s : ByteArray) (hs : s.size ≤ 1048576) : ReadsR 42 s := by
  have b1 := rv_bd s
  have z1 := numT_size s
  by_cases ha : (rv s).2 = 0
  · exact ⟨zeroR, false, RR_unclean s (fun h => h.1 ha), fun w => sread_kind s (numT s) _ _ _ _ b1.2.2 (hide rfl) (by simp; omega) (hide (specRV_any s hs)) (hide (specRV_any (numT s) (by omega))) w⟩
  by_cases hb : (rv (numT s)).2 = 0
  · exact ⟨zeroR, false, RR_unclean s (fun h => h.2.1 hb), fun w => sread_batch s (numT s) _ _ _ _ b1.2.2 (hide rfl) (by simp; omega) (by simp; omega) (hide (specRV_any s hs)) (hide (specRV_any (numT s) (by omega))) w⟩
  by_cases k1 : (rv s).1 = 1
  · exact sread_1 s hs k1 ha hb
  by_cases k4 : (rv s).1 = 4
  · exact sread_4 s hs k4 ha hb
  by_cases k2 : (rv s).1 = 2
  · exact sread_2 s hs k2 ha hb
  exact sread_n s hs (by omega) k2 ha hb

end Go.Proofs.YtkcjlalkniaapaaDoor
