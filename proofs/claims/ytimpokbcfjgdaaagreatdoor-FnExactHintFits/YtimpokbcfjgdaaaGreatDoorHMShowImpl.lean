/-
  impl.ShowRec: the text of a record.
-/
import Derived.Test.YtimpokbcfjgdaaaGreatDoorHG04
import Derived.Deep.RegionHeld3
namespace Go.Proofs.YtimpokbcfjgdaaaGreatDoor
open Go.RowKit
open Plain
attribute [local go_sem] ta_1_1 ta_2_1 ta_2_2 ta_3_1 ta_3_2 ta_3_3 ta_4_1 ta_4_2 ta_4_3 ta_4_4 ta_5_1 ta_5_2 ta_5_3 ta_5_4 ta_5_5

theorem textS_size (s : ByteArray) : (textS s).size ≤ 7 + s.size := by
  unfold textS
  rw [ByteArray.size_append]
  have := varS_size (s.size : Int)
  omega
theorem totS_size (c s : Int) : (totS c s).size ≤ 11 := by
  unfold totS
  rw [ByteArray.size_append]
  have := varS_size c
  have := fixN_size s 4
  omega

set_option maxRecDepth 100000 in
set_option maxHeartbeats 1000000 in
theorem showText_any (s : ByteArray) (hs : s.size ≤ 1048576) : Ans 29 #[.string s] (.string (textS s)) := by
  intro w
  have h7 := varS_size (s.size : Int)
  have HV := hide (implVar_any (s.size : Int))
  have HT : Hid (textS s = varS (s.size : Int) ++ s) := hide rfl
  generalize varS (s.size : Int) = v at *
  go_enter Tryz.func29, Tryz.ntmps29
  go_wp2_with fail
  refine (HV.out _).mono ?_
  rintro e w1 ⟨rfl, hb1⟩
  go_wp2
  go_ret
  exact ⟨by rw [HT.out]; rfl, hb1⟩

set_option maxRecDepth 100000 in
set_option maxHeartbeats 1000000 in
theorem showTotal_any (c s : Int) (hs : s ≤ 9223372036854775807) : Ans 146 #[.int .i64 c, .int .i64 s] (.string (totS c s)) := by
  intro w
  have h7 := varS_size c
  have h4 := fixN_size s 4
  have HV := hide (implVar_any c)
  have HF := hide (implFix4_any s hs)
  have HT : Hid (totS c s = varS c ++ fixN s 4) := hide rfl
  generalize varS c = v at *
  generalize fixN s 4 = f at *
  go_enter Tryz.func146, Tryz.ntmps146
  go_wp2_with fail
  refine (HV.out _).mono ?_
  rintro e w1 ⟨rfl, hb1⟩
  go_wp2_with fail
  refine (HF.out _).mono ?_
  rintro e w2 ⟨rfl, hb2⟩
  go_wp2
  go_ret
  exact ⟨by rw [HT.out]; rfl, hb1.trans (hb2.mono hb1.size)⟩

/-- Block B holds these cells; what was there in w is untouched. -/
structure BlkAt (w : World) (B : Nat) (T : TypeId) (cs : Array Value) (W : World) : Prop where
  row : W.heap[B]? = some (.cells cs T (0, 0))
  bel : Below w.heap.size w W
theorem BlkAt.later {w : World} {B : Nat} {T : TypeId} {cs : Array Value} {W W' : World} (h : BlkAt w B T cs W) (hb : Below W.heap.size W W') : BlkAt w B T cs W' :=
  ⟨(hb.block _ (lt_of_block h.row)).trans h.row, h.bel.trans (hb.mono h.bel.size)⟩
theorem BlkAt.new (w : World) (T : TypeId) (cs : Array Value) : BlkAt w w.heap.size T cs (w.alloc (.cells cs T)) := ⟨heap_alloc_new w _, al1 w _⟩
theorem BlkAt.cell {w : World} {B : Nat} {T : TypeId} {cs : Array Value} {W : World} (h : BlkAt w B T cs W) (i : Nat) : W.cell? ⟨B, i, none⟩ = cs[i]? := by rw [cell_of_row W B i _ _ _ h.row]
theorem BlkAt.keep {w : World} {B : Nat} {T : TypeId} {cs : Array Value} {f : FuncId} {args : Array Value} {v : Value} (h : Ans f args v) (W : World) (hW : Hid (BlkAt w B T cs W)) :
    Calls Tryz.prog f args W fun e w' => e = .returned v ∧ BlkAt w B T cs w' :=
  (h W).mono fun _ _ ⟨h1, h2⟩ => ⟨h1, hW.out.later h2⟩
theorem BlkAt.two {w : World} {B : Nat} {T : TypeId} {a b : Value} {W : World} (h : BlkAt w B T #[a, b] W) : W.cell? ⟨B, 0, none⟩ = some a ∧ W.cell? ⟨B, 1, none⟩ = some b ∧ Hid (BlkAt w B T #[a, b] W) := ⟨h.cell 0, h.cell 1, hide h⟩

set_option maxRecDepth 100000 in
set_option maxHeartbeats 1000000 in
theorem showBody_1 (key val : ByteArray) (hk : key.size ≤ 1048576) (hv : val.size ≤ 1048576) : Ans 139 #[.iface 194 (.agg #[.string key, .string val])] (.string (textS key ++ textS val)) := by
  intro w
  have z1 := textS_size key
  have z2 := textS_size val
  have HK := hide (showText_any key hk)
  have HV := hide (showText_any val hv)
  have hS1 := ((BlkAt.new w 194 #[.string key, .string val]).later (Below.refl _ _).drew).two
  have z3 : ¬ 9223372036854775807 < (textS key).size + (textS val).size := by omega
  clear z1 z2
  generalize textS key = tk at *
  generalize textS val = tv at *
  go_enter Tryz.func139, Tryz.ntmps139
  go_wp2_with fail
  go_region_held3 (fun w' => w'.cell? ⟨w.heap.size, 0, none⟩ = some (.string key) ∧ w'.cell? ⟨w.heap.size, 1, none⟩ = some (.string val) ∧ Hid (BlkAt w w.heap.size 194 #[.string key, .string val] w')) (assumption) (first
    | (go_at_call_of 29 (Value.string key); refine (BlkAt.keep HK.out _ hS1.2.2).mono ?_; rintro e w2 ⟨rfl, hk2⟩; have hS2 := hk2.two)
    | (go_at_call_of 29 (Value.string val); refine (BlkAt.keep HV.out _ hS2.2.2).mono ?_; rintro e w3 ⟨rfl, hk3⟩; have hS3 := hk3.two))
  have HB := hide hk3.bel
  clear hS3 hk3 hS2 hk2 hS1 HK HV
  go_wp2
  go_ret
  exact ⟨rfl, HB.out⟩

set_option maxRecDepth 100000 in
set_option maxHeartbeats 1000000 in
theorem showBody_4 (key val : ByteArray) (hk : key.size ≤ 1048576) (hv : val.size ≤ 1048576) : Ans 139 #[.iface 199 (.agg #[.string key, .string val])] (.string (textS key ++ textS val)) := by
  intro w
  have z1 := textS_size key
  have z2 := textS_size val
  have HK := hide (showText_any key hk)
  have HV := hide (showText_any val hv)
  have hS1 := ((BlkAt.new w 199 #[.string key, .string val]).later (Below.refl _ _).drew).two
  have z3 : ¬ 9223372036854775807 < (textS key).size + (textS val).size := by omega
  clear z1 z2
  generalize textS key = tk at *
  generalize textS val = tv at *
  go_enter Tryz.func139, Tryz.ntmps139
  go_wp2_with fail
  go_region_held3 (fun w' => w'.cell? ⟨w.heap.size, 0, none⟩ = some (.string key) ∧ w'.cell? ⟨w.heap.size, 1, none⟩ = some (.string val) ∧ Hid (BlkAt w w.heap.size 199 #[.string key, .string val] w')) (assumption) (first
    | (go_at_call_of 29 (Value.string key); refine (BlkAt.keep HK.out _ hS1.2.2).mono ?_; rintro e w2 ⟨rfl, hk2⟩; have hS2 := hk2.two)
    | (go_at_call_of 29 (Value.string val); refine (BlkAt.keep HV.out _ hS2.2.2).mono ?_; rintro e w3 ⟨rfl, hk3⟩; have hS3 := hk3.two))
  have HB := hide hk3.bel
  clear hS3 hk3 hS2 hk2 hS1 HK HV
  go_wp2
  go_ret
  exact ⟨rfl, HB.out⟩

set_option maxRecDepth 100000 in
set_option maxHeartbeats 1000000 in
theorem showBody_2 (key : ByteArray) (hk : key.size ≤ 1048576) : Ans 139 #[.iface 196 (.agg #[.string key])] (.string (textS key)) := by
  intro w
  have HK := hide (showText_any key hk)
  generalize textS key = tk at *
  go_enter Tryz.func139, Tryz.ntmps139
  go_wp2_with fail
  refine (HK.out _).mono ?_
  rintro e w1 ⟨rfl, hb1⟩
  have HB := hide ((al1 w _).trans (hb1.mono (al1 w _).size))
  go_wp2
  go_ret
  exact ⟨rfl, HB.out⟩

set_option maxRecDepth 100000 in
set_option maxHeartbeats 1000000 in
theorem showBody_3 (c s : Int) (hs : s ≤ 9223372036854775807) : Ans 139 #[.iface 198 (.agg #[.int .i64 c, .int .i64 s])] (.string (totS c s)) := by
  intro w
  have HK := hide (showTotal_any c s hs)
  generalize totS c s = tk at *
  go_enter Tryz.func139, Tryz.ntmps139
  go_wp2_with fail
  refine (HK.out _).mono ?_
  rintro e w1 ⟨rfl, hb1⟩
  have HB := hide ((al1 w _).trans (hb1.mono (al1 w _).size))
  go_wp2
  go_ret
  exact ⟨rfl, HB.out⟩

set_option maxRecDepth 100000 in
set_option maxHeartbeats 1000000 in
theorem showBody_5 (c s : Int) (hs : s ≤ 9223372036854775807) : Ans 139 #[.iface 200 (.agg #[.int .i64 c, .int .i64 s])] (.string (totS c s)) := by
  intro w
  have HK := hide (showTotal_any c s hs)
  generalize totS c s = tk at *
  go_enter Tryz.func139, Tryz.ntmps139
  go_wp2_with fail
  refine (HK.out _).mono ?_
  rintro e w1 ⟨rfl, hb1⟩
  have HB := hide ((al1 w _).trans (hb1.mono (al1 w _).size))
  go_wp2
  go_ret
  exact ⟨rfl, HB.out⟩

end Go.Proofs.YtimpokbcfjgdaaaGreatDoor
