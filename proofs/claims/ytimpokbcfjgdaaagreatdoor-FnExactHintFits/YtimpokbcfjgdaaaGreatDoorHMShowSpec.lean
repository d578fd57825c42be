/-
  spec.ShowRec: the text of a record.
-/
import Derived.Test.YtimpokbcfjgdaaaGreatDoorHMShowImpl
import Derived.Test.YtimpokbcfjgdaaaGreatDoorHMRecSpec
namespace Go.Proofs.YtimpokbcfjgdaaaGreatDoor
open Go.RowKit
open Plain

set_option maxRecDepth 100000 in
set_option maxHeartbeats 4000000 in
theorem specShow_wrong (k b : Int) (key val : ByteArray) (c s : Int) (w : World)
    (hO : Ans 107 #[.agg #[.int .i64 k, .int .i64 b, .string key, .string val, .int .i64 c, .int .i64 s]] (.bool false)) :
    Calls Tryz.prog 76 #[.agg #[.int .i64 k, .int .i64 b, .string key, .string val, .int .i64 c, .int .i64 s]] w fun e w' => e = .returned (.string ⟨#[]⟩) ∧ Below w.heap.size w w' := by
  have HA := hide (RecAt.new w k b key val c s)
  have HO := hide hO
  clear hO
  go_enter Tryz.func76, Tryz.ntmps76
  go_wp2_with fail
  refine (HO.out _).mono ?_
  rintro e w1 ⟨rfl, hb1⟩
  have HB := hide (HA.out.later hb1).bel
  clear HA hb1 HO
  go_wp2
  go_ret
  exact ⟨rfl, HB.out⟩

set_option maxRecDepth 100000 in
set_option maxHeartbeats 8000000 in
theorem specShow_1 (b : Int) (key val : ByteArray) (c s : Int) (w : World) (hk : key.size ≤ 8) (hv : val.size ≤ 24)
    (hO : Ans 107 #[.agg #[.int .i64 1, .int .i64 b, .string key, .string val, .int .i64 c, .int .i64 s]] (.bool true)) :
    Calls Tryz.prog 76 #[.agg #[.int .i64 1, .int .i64 b, .string key, .string val, .int .i64 c, .int .i64 s]] w fun e w' => e = .returned (.string (varS 1 ++ varS b ++ varS (key.size : Int) ++ key ++ varS (val.size : Int) ++ val)) ∧ Below w.heap.size w w' := by
  have HA := hide (RecAt.new w 1 b key val c s)
  have HO := hide hO
  have HK := hide (specVar_any 1)
  have HBt := hide (specVar_any b)
  have y1 := varS_size 1
  have y2 := varS_size b
  have y3 := varS_size (key.size : Int)
  have y4 := varS_size (val.size : Int)
  have HX := hide (specVar_any (key.size : Int))
  have HY := hide (specVar_any (val.size : Int))
  have z0 : ¬ 9223372036854775807 < (varS 1).size + (varS b).size := by omega
  have z1 : ¬ 9223372036854775807 < (varS 1).size + (varS b).size + (varS (key.size : Int)).size := by omega
  have z2 : ¬ 9223372036854775807 < (varS 1).size + (varS b).size + (varS (key.size : Int)).size + key.size := by omega
  have z3 : ¬ 9223372036854775807 < (varS 1).size + (varS b).size + (varS (key.size : Int)).size + key.size + (varS (val.size : Int)).size := by omega
  have z4 : ¬ 9223372036854775807 < (varS 1).size + (varS b).size + (varS (key.size : Int)).size + key.size + (varS (val.size : Int)).size + val.size := by omega
  clear hO y1 y2
  generalize varS 1 = v1 at *
  generalize varS b = v2 at *
  clear y3 y4 hk hv
  generalize varS (key.size : Int) = v3 at *
  generalize varS (val.size : Int) = v4 at *
  go_enter Tryz.func76, Tryz.ntmps76
  go_wp2_with fail
  refine (HO.out _).mono ?_
  rintro e w1 ⟨rfl, hb1⟩
  have hS1 := (HA.out.later hb1.drew).cells
  clear HA hb1 HO
  go_wp2_with fail
  go_region_held3 (fun w' => w'.cell? ⟨w.heap.size, 0, none⟩ = some (.int .i64 1) ∧ w'.cell? ⟨w.heap.size, 1, none⟩ = some (.int .i64 b) ∧ w'.cell? ⟨w.heap.size, 2, none⟩ = some (.string key) ∧ w'.cell? ⟨w.heap.size, 3, none⟩ = some (.string val) ∧ w'.cell? ⟨w.heap.size, 4, none⟩ = some (.int .i64 c) ∧ w'.cell? ⟨w.heap.size, 5, none⟩ = some (.int .i64 s) ∧ Hid (RecAt w w.heap.size 1 b key val c s w')) (assumption) (first
    | (go_at_call_of 36 (Value.int IntKind.i64 1); refine (RecAt.keep HK.out _ hS1.2.2.2.2.2.2).mono ?_; rintro e w2 ⟨rfl, hk2⟩; have hS2 := hk2.cells)
    | (go_at_call_of 36 (Value.int IntKind.i64 b); refine (RecAt.keep HBt.out _ hS2.2.2.2.2.2.2).mono ?_; rintro e w3 ⟨rfl, hk3⟩; have hS3 := hk3.cells))
  clear hS1 hS2 hk2 HK HBt
  have hS4 := (hk3.later (Below.refl _ _).drew).cells
  clear hk3
  obtain ⟨x0, x1, x2, x3, x4, x5, -⟩ := hS3
  go_wp2_with fail
  clear x0 x1 x2 x3 x4 x5
  go_region_held3 (fun w' => w'.cell? ⟨w.heap.size, 0, none⟩ = some (.int .i64 1) ∧ w'.cell? ⟨w.heap.size, 1, none⟩ = some (.int .i64 b) ∧ w'.cell? ⟨w.heap.size, 2, none⟩ = some (.string key) ∧ w'.cell? ⟨w.heap.size, 3, none⟩ = some (.string val) ∧ w'.cell? ⟨w.heap.size, 4, none⟩ = some (.int .i64 c) ∧ w'.cell? ⟨w.heap.size, 5, none⟩ = some (.int .i64 s) ∧ Hid (RecAt w w.heap.size 1 b key val c s w')) (assumption) (first
    | (go_at_call_of 36 (Value.int IntKind.i64 (key.size : Int)); refine (RecAt.keep HX.out _ hS4.2.2.2.2.2.2).mono ?_; rintro e w5 ⟨rfl, hk5⟩; have hS5 := hk5.cells)
    | (go_at_call_of 36 (Value.int IntKind.i64 (val.size : Int)); refine (RecAt.keep HY.out _ hS5.2.2.2.2.2.2).mono ?_; rintro e w6 ⟨rfl, hk6⟩; have hS6 := hk6.cells))
  have HBl := hide hk6.bel
  clear hS6 hk6 hS5 hk5 hS4 HX HY
  go_wp2
  go_ret
  exact ⟨rfl, HBl.out⟩

set_option maxRecDepth 100000 in
set_option maxHeartbeats 8000000 in
theorem specShow_4 (b : Int) (key val : ByteArray) (c s : Int) (w : World) (hk : key.size ≤ 8) (hv : val.size ≤ 24)
    (hO : Ans 107 #[.agg #[.int .i64 4, .int .i64 b, .string key, .string val, .int .i64 c, .int .i64 s]] (.bool true)) :
    Calls Tryz.prog 76 #[.agg #[.int .i64 4, .int .i64 b, .string key, .string val, .int .i64 c, .int .i64 s]] w fun e w' => e = .returned (.string (varS 4 ++ varS b ++ varS (key.size : Int) ++ key ++ varS (val.size : Int) ++ val)) ∧ Below w.heap.size w w' := by
  have HA := hide (RecAt.new w 4 b key val c s)
  have HO := hide hO
  have HK := hide (specVar_any 4)
  have HBt := hide (specVar_any b)
  have y1 := varS_size 4
  have y2 := varS_size b
  have y3 := varS_size (key.size : Int)
  have y4 := varS_size (val.size : Int)
  have HX := hide (specVar_any (key.size : Int))
  have HY := hide (specVar_any (val.size : Int))
  have z0 : ¬ 9223372036854775807 < (varS 4).size + (varS b).size := by omega
  have z1 : ¬ 9223372036854775807 < (varS 4).size + (varS b).size + (varS (key.size : Int)).size := by omega
  have z2 : ¬ 9223372036854775807 < (varS 4).size + (varS b).size + (varS (key.size : Int)).size + key.size := by omega
  have z3 : ¬ 9223372036854775807 < (varS 4).size + (varS b).size + (varS (key.size : Int)).size + key.size + (varS (val.size : Int)).size := by omega
  have z4 : ¬ 9223372036854775807 < (varS 4).size + (varS b).size + (varS (key.size : Int)).size + key.size + (varS (val.size : Int)).size + val.size := by omega
  clear hO y1 y2
  generalize varS 4 = v1 at *
  generalize varS b = v2 at *
  clear y3 y4 hk hv
  generalize varS (key.size : Int) = v3 at *
  generalize varS (val.size : Int) = v4 at *
  go_enter Tryz.func76, Tryz.ntmps76
  go_wp2_with fail
  refine (HO.out _).mono ?_
  rintro e w1 ⟨rfl, hb1⟩
  have hS1 := (HA.out.later hb1.drew).cells
  clear HA hb1 HO
  go_wp2_with fail
  go_region_held3 (fun w' => w'.cell? ⟨w.heap.size, 0, none⟩ = some (.int .i64 4) ∧ w'.cell? ⟨w.heap.size, 1, none⟩ = some (.int .i64 b) ∧ w'.cell? ⟨w.heap.size, 2, none⟩ = some (.string key) ∧ w'.cell? ⟨w.heap.size, 3, none⟩ = some (.string val) ∧ w'.cell? ⟨w.heap.size, 4, none⟩ = some (.int .i64 c) ∧ w'.cell? ⟨w.heap.size, 5, none⟩ = some (.int .i64 s) ∧ Hid (RecAt w w.heap.size 4 b key val c s w')) (assumption) (first
    | (go_at_call_of 36 (Value.int IntKind.i64 4); refine (RecAt.keep HK.out _ hS1.2.2.2.2.2.2).mono ?_; rintro e w2 ⟨rfl, hk2⟩; have hS2 := hk2.cells)
    | (go_at_call_of 36 (Value.int IntKind.i64 b); refine (RecAt.keep HBt.out _ hS2.2.2.2.2.2.2).mono ?_; rintro e w3 ⟨rfl, hk3⟩; have hS3 := hk3.cells))
  clear hS1 hS2 hk2 HK HBt
  have hS4 := (hk3.later (Below.refl _ _).drew).cells
  clear hk3
  obtain ⟨x0, x1, x2, x3, x4, x5, -⟩ := hS3
  go_wp2_with fail
  clear x0 x1 x2 x3 x4 x5
  go_region_held3 (fun w' => w'.cell? ⟨w.heap.size, 0, none⟩ = some (.int .i64 4) ∧ w'.cell? ⟨w.heap.size, 1, none⟩ = some (.int .i64 b) ∧ w'.cell? ⟨w.heap.size, 2, none⟩ = some (.string key) ∧ w'.cell? ⟨w.heap.size, 3, none⟩ = some (.string val) ∧ w'.cell? ⟨w.heap.size, 4, none⟩ = some (.int .i64 c) ∧ w'.cell? ⟨w.heap.size, 5, none⟩ = some (.int .i64 s) ∧ Hid (RecAt w w.heap.size 4 b key val c s w')) (assumption) (first
    | (go_at_call_of 36 (Value.int IntKind.i64 (key.size : Int)); refine (RecAt.keep HX.out _ hS4.2.2.2.2.2.2).mono ?_; rintro e w5 ⟨rfl, hk5⟩; have hS5 := hk5.cells)
    | (go_at_call_of 36 (Value.int IntKind.i64 (val.size : Int)); refine (RecAt.keep HY.out _ hS5.2.2.2.2.2.2).mono ?_; rintro e w6 ⟨rfl, hk6⟩; have hS6 := hk6.cells))
  have HBl := hide hk6.bel
  clear hS6 hk6 hS5 hk5 hS4 HX HY
  go_wp2
  go_ret
  exact ⟨rfl, HBl.out⟩

set_option maxRecDepth 100000 in
set_option maxHeartbeats 8000000 in
theorem specShow_2 (b : Int) (key val : ByteArray) (c s : Int) (w : World) (hk : key.size ≤ 8)
    (hO : Ans 107 #[.agg #[.int .i64 2, .int .i64 b, .string key, .string val, .int .i64 c, .int .i64 s]] (.bool true)) :
    Calls Tryz.prog 76 #[.agg #[.int .i64 2, .int .i64 b, .string key, .string val, .int .i64 c, .int .i64 s]] w fun e w' => e = .returned (.string (varS 2 ++ varS b ++ varS (key.size : Int) ++ key)) ∧ Below w.heap.size w w' := by
  have HA := hide (RecAt.new w 2 b key val c s)
  have HO := hide hO
  have HK := hide (specVar_any 2)
  have HBt := hide (specVar_any b)
  have y1 := varS_size 2
  have y2 := varS_size b
  have y3 := varS_size (key.size : Int)
  have HX := hide (specVar_any (key.size : Int))
  have z0 : ¬ 9223372036854775807 < (varS 2).size + (varS b).size := by omega
  have z1 : ¬ 9223372036854775807 < (varS 2).size + (varS b).size + (varS (key.size : Int)).size := by omega
  have z2 : ¬ 9223372036854775807 < (varS 2).size + (varS b).size + (varS (key.size : Int)).size + key.size := by omega
  clear hO y1 y2
  generalize varS 2 = v1 at *
  generalize varS b = v2 at *
  clear y3 hk
  generalize varS (key.size : Int) = v3 at *
  go_enter Tryz.func76, Tryz.ntmps76
  go_wp2_with fail
  refine (HO.out _).mono ?_
  rintro e w1 ⟨rfl, hb1⟩
  have hS1 := (HA.out.later hb1.drew).cells
  clear HA hb1 HO
  go_wp2_with fail
  go_region_held3 (fun w' => w'.cell? ⟨w.heap.size, 0, none⟩ = some (.int .i64 2) ∧ w'.cell? ⟨w.heap.size, 1, none⟩ = some (.int .i64 b) ∧ w'.cell? ⟨w.heap.size, 2, none⟩ = some (.string key) ∧ w'.cell? ⟨w.heap.size, 3, none⟩ = some (.string val) ∧ w'.cell? ⟨w.heap.size, 4, none⟩ = some (.int .i64 c) ∧ w'.cell? ⟨w.heap.size, 5, none⟩ = some (.int .i64 s) ∧ Hid (RecAt w w.heap.size 2 b key val c s w')) (assumption) (first
    | (go_at_call_of 36 (Value.int IntKind.i64 2); refine (RecAt.keep HK.out _ hS1.2.2.2.2.2.2).mono ?_; rintro e w2 ⟨rfl, hk2⟩; have hS2 := hk2.cells)
    | (go_at_call_of 36 (Value.int IntKind.i64 b); refine (RecAt.keep HBt.out _ hS2.2.2.2.2.2.2).mono ?_; rintro e w3 ⟨rfl, hk3⟩; have hS3 := hk3.cells))
  clear hS1 hS2 hk2 HK HBt
  have hS4 := (hk3.later (Below.refl _ _).drew).cells
  clear hk3
  obtain ⟨x0, x1, x2, x3, x4, x5, -⟩ := hS3
  go_wp2_with fail
  clear x0 x1 x2 x3 x4 x5
  go_region_held3 (fun w' => w'.cell? ⟨w.heap.size, 0, none⟩ = some (.int .i64 2) ∧ w'.cell? ⟨w.heap.size, 1, none⟩ = some (.int .i64 b) ∧ w'.cell? ⟨w.heap.size, 2, none⟩ = some (.string key) ∧ w'.cell? ⟨w.heap.size, 3, none⟩ = some (.string val) ∧ w'.cell? ⟨w.heap.size, 4, none⟩ = some (.int .i64 c) ∧ w'.cell? ⟨w.heap.size, 5, none⟩ = some (.int .i64 s) ∧ Hid (RecAt w w.heap.size 2 b key val c s w')) (assumption) (first
    | (go_at_call_of 36 (Value.int IntKind.i64 (key.size : Int)); refine (RecAt.keep HX.out _ hS4.2.2.2.2.2.2).mono ?_; rintro e w5 ⟨rfl, hk5⟩; have hS5 := hk5.cells))
  have HBl := hide hk5.bel
  clear hS5 hk5 hS4 HX
  go_wp2
  go_ret
  exact ⟨rfl, HBl.out⟩

set_option maxRecDepth 100000 in
set_option maxHeartbeats 8000000 in
theorem specShow_3 (b : Int) (key val : ByteArray) (c s : Int) (w : World) (hs : s ≤ 4294967295)
    (hO : Ans 107 #[.agg #[.int .i64 3, .int .i64 b, .string key, .string val, .int .i64 c, .int .i64 s]] (.bool true)) :
    Calls Tryz.prog 76 #[.agg #[.int .i64 3, .int .i64 b, .string key, .string val, .int .i64 c, .int .i64 s]] w fun e w' => e = .returned (.string (varS 3 ++ varS b ++ varS c ++ fixN s 4)) ∧ Below w.heap.size w w' := by
  have HA := hide (RecAt.new w 3 b key val c s)
  have HO := hide hO
  have HK := hide (specVar_any 3)
  have HBt := hide (specVar_any b)
  have y1 := varS_size 3
  have y2 := varS_size b
  have y3 := varS_size c
  have y4 := fixN_size s 4
  have HX := hide (specVar_any c)
  have HY := hide (specFix4_any s (by omega))
  have z0 : ¬ 9223372036854775807 < (varS 3).size + (varS b).size := by omega
  have z1 : ¬ 9223372036854775807 < (varS 3).size + (varS b).size + (varS c).size := by omega
  have z2 : ¬ 9223372036854775807 < (varS 3).size + (varS b).size + (varS c).size + (fixN s 4).size := by omega
  clear hO y1 y2
  generalize varS 3 = v1 at *
  generalize varS b = v2 at *
  clear y3 y4 hs
  generalize varS c = v3 at *
  generalize fixN s 4 = v4 at *
  go_enter Tryz.func76, Tryz.ntmps76
  go_wp2_with fail
  refine (HO.out _).mono ?_
  rintro e w1 ⟨rfl, hb1⟩
  have hS1 := (HA.out.later hb1.drew).cells
  clear HA hb1 HO
  go_wp2_with fail
  go_region_held3 (fun w' => w'.cell? ⟨w.heap.size, 0, none⟩ = some (.int .i64 3) ∧ w'.cell? ⟨w.heap.size, 1, none⟩ = some (.int .i64 b) ∧ w'.cell? ⟨w.heap.size, 2, none⟩ = some (.string key) ∧ w'.cell? ⟨w.heap.size, 3, none⟩ = some (.string val) ∧ w'.cell? ⟨w.heap.size, 4, none⟩ = some (.int .i64 c) ∧ w'.cell? ⟨w.heap.size, 5, none⟩ = some (.int .i64 s) ∧ Hid (RecAt w w.heap.size 3 b key val c s w')) (assumption) (first
    | (go_at_call_of 36 (Value.int IntKind.i64 3); refine (RecAt.keep HK.out _ hS1.2.2.2.2.2.2).mono ?_; rintro e w2 ⟨rfl, hk2⟩; have hS2 := hk2.cells)
    | (go_at_call_of 36 (Value.int IntKind.i64 b); refine (RecAt.keep HBt.out _ hS2.2.2.2.2.2.2).mono ?_; rintro e w3 ⟨rfl, hk3⟩; have hS3 := hk3.cells))
  clear hS1 hS2 hk2 HK HBt
  have hS4 := (hk3.later (Below.refl _ _).drew).cells
  clear hk3
  obtain ⟨x0, x1, x2, x3, x4, x5, -⟩ := hS3
  go_wp2_with fail
  clear x0 x1 x2 x3 x4 x5
  go_region_held3 (fun w' => w'.cell? ⟨w.heap.size, 0, none⟩ = some (.int .i64 3) ∧ w'.cell? ⟨w.heap.size, 1, none⟩ = some (.int .i64 b) ∧ w'.cell? ⟨w.heap.size, 2, none⟩ = some (.string key) ∧ w'.cell? ⟨w.heap.size, 3, none⟩ = some (.string val) ∧ w'.cell? ⟨w.heap.size, 4, none⟩ = some (.int .i64 c) ∧ w'.cell? ⟨w.heap.size, 5, none⟩ = some (.int .i64 s) ∧ Hid (RecAt w w.heap.size 3 b key val c s w')) (assumption) (first
    | (go_at_call 36; refine (RecAt.keep HX.out _ hS4.2.2.2.2.2.2).mono ?_; rintro e w5 ⟨rfl, hk5⟩; have hS5 := hk5.cells)
    | (go_at_call 37; refine (RecAt.keep HY.out _ hS5.2.2.2.2.2.2).mono ?_; rintro e w6 ⟨rfl, hk6⟩; have hS6 := hk6.cells))
  have HBl := hide hk6.bel
  clear hS6 hk6 hS5 hk5 hS4 HX HY
  go_wp2
  go_ret
  exact ⟨rfl, HBl.out⟩

set_option maxRecDepth 100000 in
set_option maxHeartbeats 8000000 in
theorem specShow_5 (b : Int) (key val : ByteArray) (c s : Int) (w : World) (hs : s ≤ 4294967295)
    (hO : Ans 107 #[.agg #[.int .i64 5, .int .i64 b, .string key, .string val, .int .i64 c, .int .i64 s]] (.bool true)) :
    Calls Tryz.prog 76 #[.agg #[.int .i64 5, .int .i64 b, .string key, .string val, .int .i64 c, .int .i64 s]] w fun e w' => e = .returned (.string (varS 5 ++ varS b ++ varS c ++ fixN s 4)) ∧ Below w.heap.size w w' := by
  have HA := hide (RecAt.new w 5 b key val c s)
  have HO := hide hO
  have HK := hide (specVar_any 5)
  have HBt := hide (specVar_any b)
  have y1 := varS_size 5
  have y2 := varS_size b
  have y3 := varS_size c
  have y4 := fixN_size s 4
  have HX := hide (specVar_any c)
  have HY := hide (specFix4_any s (by omega))
  have z0 : ¬ 9223372036854775807 < (varS 5).size + (varS b).size := by omega
  have z1 : ¬ 9223372036854775807 < (varS 5).size + (varS b).size + (varS c).size := by omega
  have z2 : ¬ 9223372036854775807 < (varS 5).size + (varS b).size + (varS c).size + (fixN s 4).size := by omega
  clear hO y1 y2
  generalize varS 5 = v1 at *
  generalize varS b = v2 at *
  clear y3 y4 hs
  generalize varS c = v3 at *
  generalize fixN s 4 = v4 at *
  go_enter Tryz.func76, Tryz.ntmps76
  go_wp2_with fail
  refine (HO.out _).mono ?_
  rintro e w1 ⟨rfl, hb1⟩
  have hS1 := (HA.out.later hb1.drew).cells
  clear HA hb1 HO
  go_wp2_with fail
  go_region_held3 (fun w' => w'.cell? ⟨w.heap.size, 0, none⟩ = some (.int .i64 5) ∧ w'.cell? ⟨w.heap.size, 1, none⟩ = some (.int .i64 b) ∧ w'.cell? ⟨w.heap.size, 2, none⟩ = some (.string key) ∧ w'.cell? ⟨w.heap.size, 3, none⟩ = some (.string val) ∧ w'.cell? ⟨w.heap.size, 4, none⟩ = some (.int .i64 c) ∧ w'.cell? ⟨w.heap.size, 5, none⟩ = some (.int .i64 s) ∧ Hid (RecAt w w.heap.size 5 b key val c s w')) (assumption) (first
    | (go_at_call_of 36 (Value.int IntKind.i64 5); refine (RecAt.keep HK.out _ hS1.2.2.2.2.2.2).mono ?_; rintro e w2 ⟨rfl, hk2⟩; have hS2 := hk2.cells)
    | (go_at_call_of 36 (Value.int IntKind.i64 b); refine (RecAt.keep HBt.out _ hS2.2.2.2.2.2.2).mono ?_; rintro e w3 ⟨rfl, hk3⟩; have hS3 := hk3.cells))
  clear hS1 hS2 hk2 HK HBt
  have hS4 := (hk3.later (Below.refl _ _).drew).cells
  clear hk3
  obtain ⟨x0, x1, x2, x3, x4, x5, -⟩ := hS3
  go_wp2_with fail
  clear x0 x1 x2 x3 x4 x5
  go_region_held3 (fun w' => w'.cell? ⟨w.heap.size, 0, none⟩ = some (.int .i64 5) ∧ w'.cell? ⟨w.heap.size, 1, none⟩ = some (.int .i64 b) ∧ w'.cell? ⟨w.heap.size, 2, none⟩ = some (.string key) ∧ w'.cell? ⟨w.heap.size, 3, none⟩ = some (.string val) ∧ w'.cell? ⟨w.heap.size, 4, none⟩ = some (.int .i64 c) ∧ w'.cell? ⟨w.heap.size, 5, none⟩ = some (.int .i64 s) ∧ Hid (RecAt w w.heap.size 5 b key val c s w')) (assumption) (first
    | (go_at_call 36; refine (RecAt.keep HX.out _ hS4.2.2.2.2.2.2).mono ?_; rintro e w5 ⟨rfl, hk5⟩; have hS5 := hk5.cells)
    | (go_at_call 37; refine (RecAt.keep HY.out _ hS5.2.2.2.2.2.2).mono ?_; rintro e w6 ⟨rfl, hk6⟩; have hS6 := hk6.cells))
  have HBl := hide hk6.bel
  clear hS6 hk6 hS5 hk5 hS4 HX HY
  go_wp2
  go_ret
  exact ⟨rfl, HBl.out⟩

theorem specShow_any (r : RecV) (hv : r.val.size ≤ maxLen) : Ans 76 #[.agg #[.int .i64 r.kind, .int .i64 r.batch, .string r.key, .string r.val, .int .i64 r.cnt, .int .i64 r.sum]] (.string (showS r)) := by
  intro w
  have hO : Ans 107 _ _ := fun W => specRecOk_any r W hv
  cases h : recOkB r with
  | false =>
    rw [h] at hO
    rw [show_none r h]
    exact specShow_wrong _ _ _ _ _ _ w hO
  | true =>
    rw [h] at hO
    obtain ⟨k, b, key, val, c, s⟩ := r
    have hok : RecOkP k b key.size val.size c s := okN_iff.1 h
    have e : showS ⟨k, b, key, val, c, s⟩ = varS k ++ varS b ++ bodyS k key val c s := if_pos h
    rw [e]
    simp only
    unfold RecOkP at hok
    by_cases k1 : k = 1
    · subst k1
      have e1 : bodyS 1 key val c s = textS key ++ textS val := if_pos (Or.inl rfl)
      rw [e1]
      unfold textS
      have := specShow_1 b key val c s w (by omega) (by omega) hO
      simpa only [ByteArray.append_assoc] using this
    by_cases k4 : k = 4
    · subst k4
      have e1 : bodyS 4 key val c s = textS key ++ textS val := if_pos (Or.inr rfl)
      rw [e1]
      unfold textS
      have := specShow_4 b key val c s w (by omega) (by omega) hO
      simpa only [ByteArray.append_assoc] using this
    by_cases k2 : k = 2
    · subst k2
      have e1 : bodyS 2 key val c s = textS key := by unfold bodyS; rw [if_neg (by omega), if_pos rfl]
      rw [e1]
      unfold textS
      have := specShow_2 b key val c s w (by omega) hO
      simpa only [ByteArray.append_assoc] using this
    have e1 : bodyS k key val c s = totS c s := by unfold bodyS; rw [if_neg (by omega), if_neg k2]
    rw [e1]
    unfold totS
    by_cases k3 : k = 3
    · subst k3
      have := specShow_3 b key val c s w (by omega) hO
      simpa only [ByteArray.append_assoc] using this
    · obtain rfl : k = 5 := by omega
      have := specShow_5 b key val c s w (by omega) hO
      simpa only [ByteArray.append_assoc] using this

end Go.Proofs.YtimpokbcfjgdaaaGreatDoor
