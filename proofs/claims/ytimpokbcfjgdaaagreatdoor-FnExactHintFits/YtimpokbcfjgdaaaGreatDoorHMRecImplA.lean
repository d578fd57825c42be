/-
  What impl.bodyOf makes of a record, recOf of that, and impl's questions on it (batchOk, bodyOk), kind by kind.
-/
import Derived.Test.YtimpokbcfjgdaaaGreatDoorHG00
namespace Go.Proofs.YtimpokbcfjgdaaaGreatDoor
open Go.RowKit
open Plain

theorem ta_1_1 (v : Value) (w : World) : (Instr.typeAssert (.iface 194 v) 185 194 true).run Tryz.prog w = .ok (.tuple #[v, .bool true]) w := by kernel_rfl
theorem ta_1_2 (v : Value) (w : World) : (Instr.typeAssert (.iface 194 v) 185 196 true).run Tryz.prog w = .ok (.tuple #[.agg #[.string ⟨#[]⟩], .bool false]) w := by kernel_rfl
theorem ta_1_3 (v : Value) (w : World) : (Instr.typeAssert (.iface 194 v) 185 198 true).run Tryz.prog w = .ok (.tuple #[.agg #[.int .i64 0, .int .i64 0], .bool false]) w := by kernel_rfl
theorem ta_1_4 (v : Value) (w : World) : (Instr.typeAssert (.iface 194 v) 185 199 true).run Tryz.prog w = .ok (.tuple #[.agg #[.string ⟨#[]⟩, .string ⟨#[]⟩], .bool false]) w := by kernel_rfl
theorem ta_1_5 (v : Value) (w : World) : (Instr.typeAssert (.iface 194 v) 185 200 true).run Tryz.prog w = .ok (.tuple #[.agg #[.int .i64 0, .int .i64 0], .bool false]) w := by kernel_rfl
theorem mk_1 (v : Value) (w : World) : (method 364 194 v "loop.example/g01397/impl.kind").run Tryz.prog w = .ok (199, v) w := by kernel_rfl
theorem na_1 (v : Value) (w : World) : (nilAhead 364 194 v "loop.example/g01397/impl.kind").run Tryz.prog w = .ok (some false) w := by kernel_rfl
theorem ta_2_1 (v : Value) (w : World) : (Instr.typeAssert (.iface 196 v) 185 194 true).run Tryz.prog w = .ok (.tuple #[.agg #[.string ⟨#[]⟩, .string ⟨#[]⟩], .bool false]) w := by kernel_rfl
theorem ta_2_2 (v : Value) (w : World) : (Instr.typeAssert (.iface 196 v) 185 196 true).run Tryz.prog w = .ok (.tuple #[v, .bool true]) w := by kernel_rfl
theorem ta_2_3 (v : Value) (w : World) : (Instr.typeAssert (.iface 196 v) 185 198 true).run Tryz.prog w = .ok (.tuple #[.agg #[.int .i64 0, .int .i64 0], .bool false]) w := by kernel_rfl
theorem ta_2_4 (v : Value) (w : World) : (Instr.typeAssert (.iface 196 v) 185 199 true).run Tryz.prog w = .ok (.tuple #[.agg #[.string ⟨#[]⟩, .string ⟨#[]⟩], .bool false]) w := by kernel_rfl
theorem ta_2_5 (v : Value) (w : World) : (Instr.typeAssert (.iface 196 v) 185 200 true).run Tryz.prog w = .ok (.tuple #[.agg #[.int .i64 0, .int .i64 0], .bool false]) w := by kernel_rfl
theorem mk_2 (v : Value) (w : World) : (method 364 196 v "loop.example/g01397/impl.kind").run Tryz.prog w = .ok (200, v) w := by kernel_rfl
theorem na_2 (v : Value) (w : World) : (nilAhead 364 196 v "loop.example/g01397/impl.kind").run Tryz.prog w = .ok (some false) w := by kernel_rfl
theorem ta_3_1 (v : Value) (w : World) : (Instr.typeAssert (.iface 198 v) 185 194 true).run Tryz.prog w = .ok (.tuple #[.agg #[.string ⟨#[]⟩, .string ⟨#[]⟩], .bool false]) w := by kernel_rfl
theorem ta_3_2 (v : Value) (w : World) : (Instr.typeAssert (.iface 198 v) 185 196 true).run Tryz.prog w = .ok (.tuple #[.agg #[.string ⟨#[]⟩], .bool false]) w := by kernel_rfl
theorem ta_3_3 (v : Value) (w : World) : (Instr.typeAssert (.iface 198 v) 185 198 true).run Tryz.prog w = .ok (.tuple #[v, .bool true]) w := by kernel_rfl
theorem ta_3_4 (v : Value) (w : World) : (Instr.typeAssert (.iface 198 v) 185 199 true).run Tryz.prog w = .ok (.tuple #[.agg #[.string ⟨#[]⟩, .string ⟨#[]⟩], .bool false]) w := by kernel_rfl
theorem ta_3_5 (v : Value) (w : World) : (Instr.typeAssert (.iface 198 v) 185 200 true).run Tryz.prog w = .ok (.tuple #[.agg #[.int .i64 0, .int .i64 0], .bool false]) w := by kernel_rfl
theorem mk_3 (v : Value) (w : World) : (method 364 198 v "loop.example/g01397/impl.kind").run Tryz.prog w = .ok (201, v) w := by kernel_rfl
theorem na_3 (v : Value) (w : World) : (nilAhead 364 198 v "loop.example/g01397/impl.kind").run Tryz.prog w = .ok (some false) w := by kernel_rfl
theorem ta_4_1 (v : Value) (w : World) : (Instr.typeAssert (.iface 199 v) 185 194 true).run Tryz.prog w = .ok (.tuple #[.agg #[.string ⟨#[]⟩, .string ⟨#[]⟩], .bool false]) w := by kernel_rfl
theorem ta_4_2 (v : Value) (w : World) : (Instr.typeAssert (.iface 199 v) 185 196 true).run Tryz.prog w = .ok (.tuple #[.agg #[.string ⟨#[]⟩], .bool false]) w := by kernel_rfl
theorem ta_4_3 (v : Value) (w : World) : (Instr.typeAssert (.iface 199 v) 185 198 true).run Tryz.prog w = .ok (.tuple #[.agg #[.int .i64 0, .int .i64 0], .bool false]) w := by kernel_rfl
theorem ta_4_4 (v : Value) (w : World) : (Instr.typeAssert (.iface 199 v) 185 199 true).run Tryz.prog w = .ok (.tuple #[v, .bool true]) w := by kernel_rfl
theorem ta_4_5 (v : Value) (w : World) : (Instr.typeAssert (.iface 199 v) 185 200 true).run Tryz.prog w = .ok (.tuple #[.agg #[.int .i64 0, .int .i64 0], .bool false]) w := by kernel_rfl
theorem mk_4 (v : Value) (w : World) : (method 364 199 v "loop.example/g01397/impl.kind").run Tryz.prog w = .ok (202, v) w := by kernel_rfl
theorem na_4 (v : Value) (w : World) : (nilAhead 364 199 v "loop.example/g01397/impl.kind").run Tryz.prog w = .ok (some false) w := by kernel_rfl
theorem ta_5_1 (v : Value) (w : World) : (Instr.typeAssert (.iface 200 v) 185 194 true).run Tryz.prog w = .ok (.tuple #[.agg #[.string ⟨#[]⟩, .string ⟨#[]⟩], .bool false]) w := by kernel_rfl
theorem ta_5_2 (v : Value) (w : World) : (Instr.typeAssert (.iface 200 v) 185 196 true).run Tryz.prog w = .ok (.tuple #[.agg #[.string ⟨#[]⟩], .bool false]) w := by kernel_rfl
theorem ta_5_3 (v : Value) (w : World) : (Instr.typeAssert (.iface 200 v) 185 198 true).run Tryz.prog w = .ok (.tuple #[.agg #[.int .i64 0, .int .i64 0], .bool false]) w := by kernel_rfl
theorem ta_5_4 (v : Value) (w : World) : (Instr.typeAssert (.iface 200 v) 185 199 true).run Tryz.prog w = .ok (.tuple #[.agg #[.string ⟨#[]⟩, .string ⟨#[]⟩], .bool false]) w := by kernel_rfl
theorem ta_5_5 (v : Value) (w : World) : (Instr.typeAssert (.iface 200 v) 185 200 true).run Tryz.prog w = .ok (.tuple #[v, .bool true]) w := by kernel_rfl
theorem mk_5 (v : Value) (w : World) : (method 364 200 v "loop.example/g01397/impl.kind").run Tryz.prog w = .ok (203, v) w := by kernel_rfl
theorem na_5 (v : Value) (w : World) : (nilAhead 364 200 v "loop.example/g01397/impl.kind").run Tryz.prog w = .ok (some false) w := by kernel_rfl
attribute [local go_sem] ta_1_1 ta_1_2 ta_1_3 ta_1_4 ta_1_5 ta_2_1 ta_2_2 ta_2_3 ta_2_4 ta_2_5 ta_3_1 ta_3_2 ta_3_3 ta_3_4 ta_3_5 ta_4_1 ta_4_2 ta_4_3 ta_4_4 ta_4_5 ta_5_1 ta_5_2 ta_5_3 ta_5_4 ta_5_5 mk_1 mk_2 mk_3 mk_4 mk_5

theorem al1 (w : World) (a : Obj) : Below w.heap.size w (w.alloc a) := (Below.refl _ _).alloc (Nat.le_refl _) a
theorem al2 (w : World) (a b : Obj) : Below w.heap.size w ((w.alloc a).alloc b) := (al1 w a).alloc (by simp) b
theorem al3 (w : World) (a b c : Obj) : Below w.heap.size w (((w.alloc a).alloc b).alloc c) := (al2 w a b).alloc (by simp; omega) c
theorem al4 (w : World) (a b c d : Obj) : Below w.heap.size w ((((w.alloc a).alloc b).alloc c).alloc d) := (al3 w a b c).alloc (by simp; omega) d

def pairB (key val : ByteArray) : Bool := decide (1 ≤ key.size ∧ key.size ≤ 8 ∧ val.size ≤ 24)
def totB (c m s : Int) : Bool := decide (0 ≤ c ∧ c ≤ m ∧ 0 ≤ s ∧ s ≤ 4294967295)

set_option maxHeartbeats 400000 in
theorem pairOk_any (key val : ByteArray) (w : World) :
    Calls Tryz.prog 144 #[.string key, .string val] w fun e w' => e = .returned (.bool (pairB key val)) ∧ w = w' := by
  by_cases h1 : 1 ≤ key.size ∧ key.size ≤ 8
  · have HK := hide (keyB_yes h1)
    by_cases h2 : val.size ≤ 24
    · have t2 : decide ((val.size : Int) ≤ 24) = true := by simp; omega
      have HV : Hid (pairB key val = true) := hide (decide_eq_true ⟨h1.1, h1.2, h2⟩)
      clear h1 h2
      go_enter Tryz.func144, Tryz.ntmps144
      go_wp2_with (go_at_call 127; refine (implKey_any _ _).mono ?_; rw [HK.out]; rintro e w' ⟨rfl, rfl⟩)
      go_ret
      exact ⟨by rw [HV.out]; rfl, rfl⟩
    · have t2 : decide ((val.size : Int) ≤ 24) = false := by simp; omega
      have HV : Hid (pairB key val = false) := hide (decide_eq_false (fun h => h2 h.2.2))
      clear h1 h2
      go_enter Tryz.func144, Tryz.ntmps144
      go_wp2_with (go_at_call 127; refine (implKey_any _ _).mono ?_; rw [HK.out]; rintro e w' ⟨rfl, rfl⟩)
      go_ret
      exact ⟨by rw [HV.out]; rfl, rfl⟩
  · have HK := hide (keyB_no h1)
    have HV : Hid (pairB key val = false) := hide (decide_eq_false (fun h => h1 ⟨h.1, h.2.1⟩))
    clear h1
    go_enter Tryz.func144, Tryz.ntmps144
    go_wp2_with (go_at_call 127; refine (implKey_any _ _).mono ?_; rw [HK.out]; rintro e w' ⟨rfl, rfl⟩)
    go_ret
    exact ⟨by rw [HV.out]; rfl, rfl⟩

set_option maxHeartbeats 400000 in
theorem totalOk_any (c m s : Int) (w : World) :
    Calls Tryz.prog 145 #[.int .i64 c, .int .i64 m, .int .i64 s] w fun e w' => e = .returned (.bool (totB c m s)) ∧ w = w' := by
  by_cases h : 0 ≤ c ∧ c ≤ m ∧ 0 ≤ s ∧ s ≤ 4294967295
  · have HV : Hid (totB c m s = true) := hide (decide_eq_true h)
    obtain ⟨h1, h2, h3, h4⟩ := h
    have t1 : decide (0 ≤ c) = true := by simpa using h1
    have t2 : decide (c ≤ m) = true := by simpa using h2
    have t3 : decide (0 ≤ s) = true := by simpa using h3
    have t4 : decide (s ≤ 4294967295) = true := by simpa using h4
    clear h1 h2 h3 h4
    go_enter Tryz.func145, Tryz.ntmps145
    go_wp2
    go_ret
    exact ⟨by rw [HV.out]; rfl, rfl⟩
  · have HV : Hid (totB c m s = false) := hide (decide_eq_false h)
    by_cases h1 : 0 ≤ c
    · have t1 : decide (0 ≤ c) = true := by simpa using h1
      by_cases h2 : c ≤ m
      · have t2 : decide (c ≤ m) = true := by simpa using h2
        by_cases h3 : 0 ≤ s
        · have t3 : decide (0 ≤ s) = true := by simpa using h3
          have t4 : decide (s ≤ 4294967295) = false := by simp; omega
          clear h1 h2 h3 h
          go_enter Tryz.func145, Tryz.ntmps145
          go_wp2
          go_ret
          exact ⟨by rw [HV.out]; rfl, rfl⟩
        · have t3 : decide (0 ≤ s) = false := by simpa using h3
          clear h1 h2 h3 h
          go_enter Tryz.func145, Tryz.ntmps145
          go_wp2
          go_ret
          exact ⟨by rw [HV.out]; rfl, rfl⟩
      · have t2 : decide (c ≤ m) = false := by simpa using h2
        clear h1 h2 h
        go_enter Tryz.func145, Tryz.ntmps145
        go_wp2
        go_ret
        exact ⟨by rw [HV.out]; rfl, rfl⟩
    · have t1 : decide (0 ≤ c) = false := by simpa using h1
      clear h1 h
      go_enter Tryz.func145, Tryz.ntmps145
      go_wp2
      go_ret
      exact ⟨by rw [HV.out]; rfl, rfl⟩

set_option maxHeartbeats 400000 in
theorem kind_1 (v : Array Value) (w : World) : Calls Tryz.prog 199 #[.agg v] w fun e w' => e = .returned (.int .i64 1) ∧ Below w.heap.size w w' := by
  go_enter Tryz.func199, Tryz.ntmps199
  go_wp2
  go_ret
  exact ⟨rfl, al1 _ _⟩

set_option maxHeartbeats 400000 in
theorem kind_2 (v : Array Value) (w : World) : Calls Tryz.prog 200 #[.agg v] w fun e w' => e = .returned (.int .i64 2) ∧ Below w.heap.size w w' := by
  go_enter Tryz.func200, Tryz.ntmps200
  go_wp2
  go_ret
  exact ⟨rfl, al1 _ _⟩

set_option maxHeartbeats 400000 in
theorem kind_3 (v : Array Value) (w : World) : Calls Tryz.prog 201 #[.agg v] w fun e w' => e = .returned (.int .i64 3) ∧ Below w.heap.size w w' := by
  go_enter Tryz.func201, Tryz.ntmps201
  go_wp2
  go_ret
  exact ⟨rfl, al1 _ _⟩

set_option maxHeartbeats 400000 in
theorem kind_4 (v : Array Value) (w : World) : Calls Tryz.prog 202 #[.agg v] w fun e w' => e = .returned (.int .i64 4) ∧ Below w.heap.size w w' := by
  go_enter Tryz.func202, Tryz.ntmps202
  go_wp2
  go_ret
  exact ⟨rfl, al1 _ _⟩

set_option maxHeartbeats 400000 in
theorem kind_5 (v : Array Value) (w : World) : Calls Tryz.prog 203 #[.agg v] w fun e w' => e = .returned (.int .i64 5) ∧ Below w.heap.size w w' := by
  go_enter Tryz.func203, Tryz.ntmps203
  go_wp2
  go_ret
  exact ⟨rfl, al1 _ _⟩

set_option maxRecDepth 100000 in
set_option maxHeartbeats 1000000 in
theorem bodyOf_1 (b : Int) (key val : ByteArray) (c s : Int) (w : World) :
    Calls Tryz.prog 136 #[.agg #[.int .i64 1, .int .i64 b, .string key, .string val, .int .i64 c, .int .i64 s]] w fun e w' => e = .returned (.iface 194 (.agg #[.string key, .string val])) ∧ Below w.heap.size w w' := by
  go_enter Tryz.func136, Tryz.ntmps136
  go_wp2
  go_ret
  exact ⟨rfl, al1 _ _⟩

set_option maxRecDepth 100000 in
set_option maxHeartbeats 1000000 in
theorem recOf_1 (b : Int) (key val : ByteArray) (w : World) :
    Calls Tryz.prog 129 #[.iface 194 (.agg #[.string key, .string val]), .int .i64 b] w fun e w' => e = .returned (.agg #[.int .i64 1, .int .i64 b, .string key, .string val, .int .i64 0, .int .i64 0]) ∧ Below w.heap.size w w' := by
  go_enter Tryz.func129, Tryz.ntmps129
  go_wp2
  go_region
  go_wp2
  refine bodyPost_ret (v := .agg #[.int .i64 1, .int .i64 b, .string key, .string val, .int .i64 0, .int .i64 0]) (by simp [results, Tryz.results129, go_sem]) rfl ⟨rfl, ?_⟩
  first | exact al4 _ _ _ _ _ | exact (al4 _ _ _ _ _).drew | exact Below.setCell (al4 _ _ _ _ _).drew (Nat.le_refl _) _

set_option maxRecDepth 100000 in
set_option maxHeartbeats 1000000 in
theorem batchOk_1 (b : Int) (key val : ByteArray) (w : World) :
    Calls Tryz.prog 137 #[.iface 194 (.agg #[.string key, .string val]), .int .i64 b] w fun e w' => e = .returned (.bool (decide (1 ≤ b ∧ b ≤ 1000000))) ∧ Below w.heap.size w w' := by
  by_cases h1 : 1 ≤ b
  · have t1 : decide (1 ≤ b) = true := by simpa using h1
    by_cases h2 : b ≤ 1000000
    · have t2 : decide (b ≤ 1000000) = true := by simpa using h2
      have HV : Hid (decide (1 ≤ b ∧ b ≤ 1000000) = true) := hide (decide_eq_true ⟨h1, h2⟩)
      clear h1 h2
      go_enter Tryz.func137, Tryz.ntmps137
      go_wp2
      go_ret
      exact ⟨by rw [HV.out]; rfl, al1 _ _⟩
    · have t2 : decide (b ≤ 1000000) = false := by simpa using h2
      have HV : Hid (decide (1 ≤ b ∧ b ≤ 1000000) = false) := hide (decide_eq_false (fun h => h2 h.2))
      clear h1 h2
      go_enter Tryz.func137, Tryz.ntmps137
      go_wp2
      go_ret
      exact ⟨by rw [HV.out]; rfl, al1 _ _⟩
  · have t1 : decide (1 ≤ b) = false := by simpa using h1
    have HV : Hid (decide (1 ≤ b ∧ b ≤ 1000000) = false) := hide (decide_eq_false (fun h => h1 h.1))
    clear h1
    go_enter Tryz.func137, Tryz.ntmps137
    go_wp2
    go_ret
    exact ⟨by rw [HV.out]; rfl, al1 _ _⟩

set_option maxRecDepth 100000 in
set_option maxHeartbeats 1000000 in
theorem bodyOk_1 (key val : ByteArray) (w : World) :
    Calls Tryz.prog 138 #[.iface 194 (.agg #[.string key, .string val])] w fun e w' => e = .returned (.bool (pairB key val)) ∧ Below w.heap.size w w' := by
  go_enter Tryz.func138, Tryz.ntmps138
  go_wp2_with (go_at_call 144; refine (pairOk_any _ _ _).mono ?_; rintro e w' ⟨rfl, rfl⟩)
  go_ret
  exact ⟨rfl, al1 _ _⟩

set_option maxRecDepth 100000 in
set_option maxHeartbeats 1000000 in
theorem bodyOf_2 (b : Int) (key val : ByteArray) (c s : Int) (w : World) :
    Calls Tryz.prog 136 #[.agg #[.int .i64 2, .int .i64 b, .string key, .string val, .int .i64 c, .int .i64 s]] w fun e w' => e = .returned (.iface 196 (.agg #[.string key])) ∧ Below w.heap.size w w' := by
  go_enter Tryz.func136, Tryz.ntmps136
  go_wp2
  go_ret
  exact ⟨rfl, al1 _ _⟩

set_option maxRecDepth 100000 in
set_option maxHeartbeats 1000000 in
theorem recOf_2 (b : Int) (key : ByteArray) (w : World) :
    Calls Tryz.prog 129 #[.iface 196 (.agg #[.string key]), .int .i64 b] w fun e w' => e = .returned (.agg #[.int .i64 2, .int .i64 b, .string key, .string ⟨#[]⟩, .int .i64 0, .int .i64 0]) ∧ Below w.heap.size w w' := by
  go_enter Tryz.func129, Tryz.ntmps129
  go_wp2
  refine bodyPost_ret (v := .agg #[.int .i64 2, .int .i64 b, .string key, .string ⟨#[]⟩, .int .i64 0, .int .i64 0]) (by simp [results, Tryz.results129, go_sem]) rfl ⟨rfl, ?_⟩
  first | exact al4 _ _ _ _ _ | exact (al4 _ _ _ _ _).drew | exact Below.setCell (al4 _ _ _ _ _).drew (Nat.le_refl _) _

set_option maxRecDepth 100000 in
set_option maxHeartbeats 1000000 in
theorem batchOk_2 (b : Int) (key : ByteArray) (w : World) :
    Calls Tryz.prog 137 #[.iface 196 (.agg #[.string key]), .int .i64 b] w fun e w' => e = .returned (.bool (decide (1 ≤ b ∧ b ≤ 1000000))) ∧ Below w.heap.size w w' := by
  by_cases h1 : 1 ≤ b
  · have t1 : decide (1 ≤ b) = true := by simpa using h1
    by_cases h2 : b ≤ 1000000
    · have t2 : decide (b ≤ 1000000) = true := by simpa using h2
      have HV : Hid (decide (1 ≤ b ∧ b ≤ 1000000) = true) := hide (decide_eq_true ⟨h1, h2⟩)
      clear h1 h2
      go_enter Tryz.func137, Tryz.ntmps137
      go_wp2
      go_ret
      exact ⟨by rw [HV.out]; rfl, al1 _ _⟩
    · have t2 : decide (b ≤ 1000000) = false := by simpa using h2
      have HV : Hid (decide (1 ≤ b ∧ b ≤ 1000000) = false) := hide (decide_eq_false (fun h => h2 h.2))
      clear h1 h2
      go_enter Tryz.func137, Tryz.ntmps137
      go_wp2
      go_ret
      exact ⟨by rw [HV.out]; rfl, al1 _ _⟩
  · have t1 : decide (1 ≤ b) = false := by simpa using h1
    have HV : Hid (decide (1 ≤ b ∧ b ≤ 1000000) = false) := hide (decide_eq_false (fun h => h1 h.1))
    clear h1
    go_enter Tryz.func137, Tryz.ntmps137
    go_wp2
    go_ret
    exact ⟨by rw [HV.out]; rfl, al1 _ _⟩

set_option maxRecDepth 100000 in
set_option maxHeartbeats 1000000 in
theorem bodyOk_2 (key : ByteArray) (w : World) :
    Calls Tryz.prog 138 #[.iface 196 (.agg #[.string key])] w fun e w' => e = .returned (.bool (keyB key)) ∧ Below w.heap.size w w' := by
  go_enter Tryz.func138, Tryz.ntmps138
  go_wp2_with (go_at_call 127; refine (implKey_any _ _).mono ?_; rintro e w' ⟨rfl, rfl⟩)
  go_ret
  exact ⟨rfl, al1 _ _⟩

set_option maxRecDepth 100000 in
set_option maxHeartbeats 1000000 in
theorem bodyOf_3 (b : Int) (key val : ByteArray) (c s : Int) (w : World) :
    Calls Tryz.prog 136 #[.agg #[.int .i64 3, .int .i64 b, .string key, .string val, .int .i64 c, .int .i64 s]] w fun e w' => e = .returned (.iface 198 (.agg #[.int .i64 c, .int .i64 s])) ∧ Below w.heap.size w w' := by
  go_enter Tryz.func136, Tryz.ntmps136
  go_wp2
  go_ret
  exact ⟨rfl, al1 _ _⟩

set_option maxRecDepth 100000 in
set_option maxHeartbeats 1000000 in
theorem recOf_3 (b : Int) (c s : Int) (w : World) :
    Calls Tryz.prog 129 #[.iface 198 (.agg #[.int .i64 c, .int .i64 s]), .int .i64 b] w fun e w' => e = .returned (.agg #[.int .i64 3, .int .i64 b, .string ⟨#[]⟩, .string ⟨#[]⟩, .int .i64 c, .int .i64 s]) ∧ Below w.heap.size w w' := by
  go_enter Tryz.func129, Tryz.ntmps129
  go_wp2
  go_region
  go_wp2
  refine bodyPost_ret (v := .agg #[.int .i64 3, .int .i64 b, .string ⟨#[]⟩, .string ⟨#[]⟩, .int .i64 c, .int .i64 s]) (by simp [results, Tryz.results129, go_sem]) rfl ⟨rfl, ?_⟩
  first | exact al4 _ _ _ _ _ | exact (al4 _ _ _ _ _).drew | exact Below.setCell (al4 _ _ _ _ _).drew (Nat.le_refl _) _

set_option maxRecDepth 100000 in
set_option maxHeartbeats 1000000 in
theorem batchOk_3 (b : Int) (c s : Int) (w : World) :
    Calls Tryz.prog 137 #[.iface 198 (.agg #[.int .i64 c, .int .i64 s]), .int .i64 b] w fun e w' => e = .returned (.bool (decide (1 ≤ b ∧ b ≤ 1000000))) ∧ Below w.heap.size w w' := by
  by_cases h1 : 1 ≤ b
  · have t1 : decide (1 ≤ b) = true := by simpa using h1
    by_cases h2 : b ≤ 1000000
    · have t2 : decide (b ≤ 1000000) = true := by simpa using h2
      have HV : Hid (decide (1 ≤ b ∧ b ≤ 1000000) = true) := hide (decide_eq_true ⟨h1, h2⟩)
      clear h1 h2
      go_enter Tryz.func137, Tryz.ntmps137
      go_wp2
      go_ret
      exact ⟨by rw [HV.out]; rfl, al1 _ _⟩
    · have t2 : decide (b ≤ 1000000) = false := by simpa using h2
      have HV : Hid (decide (1 ≤ b ∧ b ≤ 1000000) = false) := hide (decide_eq_false (fun h => h2 h.2))
      clear h1 h2
      go_enter Tryz.func137, Tryz.ntmps137
      go_wp2
      go_ret
      exact ⟨by rw [HV.out]; rfl, al1 _ _⟩
  · have t1 : decide (1 ≤ b) = false := by simpa using h1
    have HV : Hid (decide (1 ≤ b ∧ b ≤ 1000000) = false) := hide (decide_eq_false (fun h => h1 h.1))
    clear h1
    go_enter Tryz.func137, Tryz.ntmps137
    go_wp2
    go_ret
    exact ⟨by rw [HV.out]; rfl, al1 _ _⟩

set_option maxRecDepth 100000 in
set_option maxHeartbeats 1000000 in
theorem bodyOk_3 (c s : Int) (w : World) :
    Calls Tryz.prog 138 #[.iface 198 (.agg #[.int .i64 c, .int .i64 s])] w fun e w' => e = .returned (.bool (totB c 8 s)) ∧ Below w.heap.size w w' := by
  go_enter Tryz.func138, Tryz.ntmps138
  go_wp2_with (go_at_call 145; refine (totalOk_any _ _ _ _).mono ?_; rintro e w' ⟨rfl, rfl⟩)
  go_ret
  exact ⟨rfl, al1 _ _⟩

set_option maxRecDepth 100000 in
set_option maxHeartbeats 1000000 in
theorem bodyOf_4 (b : Int) (key val : ByteArray) (c s : Int) (w : World) :
    Calls Tryz.prog 136 #[.agg #[.int .i64 4, .int .i64 b, .string key, .string val, .int .i64 c, .int .i64 s]] w fun e w' => e = .returned (.iface 199 (.agg #[.string key, .string val])) ∧ Below w.heap.size w w' := by
  go_enter Tryz.func136, Tryz.ntmps136
  go_wp2
  go_ret
  exact ⟨rfl, al1 _ _⟩

set_option maxRecDepth 100000 in
set_option maxHeartbeats 1000000 in
theorem recOf_4 (b : Int) (key val : ByteArray) (w : World) :
    Calls Tryz.prog 129 #[.iface 199 (.agg #[.string key, .string val]), .int .i64 b] w fun e w' => e = .returned (.agg #[.int .i64 4, .int .i64 b, .string key, .string val, .int .i64 0, .int .i64 0]) ∧ Below w.heap.size w w' := by
  go_enter Tryz.func129, Tryz.ntmps129
  go_wp2
  go_region
  go_wp2
  refine bodyPost_ret (v := .agg #[.int .i64 4, .int .i64 b, .string key, .string val, .int .i64 0, .int .i64 0]) (by simp [results, Tryz.results129, go_sem]) rfl ⟨rfl, ?_⟩
  first | exact al4 _ _ _ _ _ | exact (al4 _ _ _ _ _).drew | exact Below.setCell (al4 _ _ _ _ _).drew (Nat.le_refl _) _

set_option maxRecDepth 100000 in
set_option maxHeartbeats 1000000 in
theorem batchOk_4 (b : Int) (key val : ByteArray) (w : World) :
    Calls Tryz.prog 137 #[.iface 199 (.agg #[.string key, .string val]), .int .i64 b] w fun e w' => e = .returned (.bool (decide (1 ≤ b ∧ b ≤ 1000000))) ∧ Below w.heap.size w w' := by
  by_cases h1 : 1 ≤ b
  · have t1 : decide (1 ≤ b) = true := by simpa using h1
    by_cases h2 : b ≤ 1000000
    · have t2 : decide (b ≤ 1000000) = true := by simpa using h2
      have HV : Hid (decide (1 ≤ b ∧ b ≤ 1000000) = true) := hide (decide_eq_true ⟨h1, h2⟩)
      clear h1 h2
      go_enter Tryz.func137, Tryz.ntmps137
      go_wp2
      go_ret
      exact ⟨by rw [HV.out]; rfl, al1 _ _⟩
    · have t2 : decide (b ≤ 1000000) = false := by simpa using h2
      have HV : Hid (decide (1 ≤ b ∧ b ≤ 1000000) = false) := hide (decide_eq_false (fun h => h2 h.2))
      clear h1 h2
      go_enter Tryz.func137, Tryz.ntmps137
      go_wp2
      go_ret
      exact ⟨by rw [HV.out]; rfl, al1 _ _⟩
  · have t1 : decide (1 ≤ b) = false := by simpa using h1
    have HV : Hid (decide (1 ≤ b ∧ b ≤ 1000000) = false) := hide (decide_eq_false (fun h => h1 h.1))
    clear h1
    go_enter Tryz.func137, Tryz.ntmps137
    go_wp2
    go_ret
    exact ⟨by rw [HV.out]; rfl, al1 _ _⟩

set_option maxRecDepth 100000 in
set_option maxHeartbeats 1000000 in
theorem bodyOk_4 (key val : ByteArray) (w : World) :
    Calls Tryz.prog 138 #[.iface 199 (.agg #[.string key, .string val])] w fun e w' => e = .returned (.bool (pairB key val)) ∧ Below w.heap.size w w' := by
  go_enter Tryz.func138, Tryz.ntmps138
  go_wp2_with (go_at_call 144; refine (pairOk_any _ _ _).mono ?_; rintro e w' ⟨rfl, rfl⟩)
  go_ret
  exact ⟨rfl, al1 _ _⟩

set_option maxRecDepth 100000 in
set_option maxHeartbeats 1000000 in
theorem bodyOf_5 (b : Int) (key val : ByteArray) (c s : Int) (w : World) :
    Calls Tryz.prog 136 #[.agg #[.int .i64 5, .int .i64 b, .string key, .string val, .int .i64 c, .int .i64 s]] w fun e w' => e = .returned (.iface 200 (.agg #[.int .i64 c, .int .i64 s])) ∧ Below w.heap.size w w' := by
  go_enter Tryz.func136, Tryz.ntmps136
  go_wp2
  go_ret
  exact ⟨rfl, al1 _ _⟩

set_option maxRecDepth 100000 in
set_option maxHeartbeats 1000000 in
theorem recOf_5 (b : Int) (c s : Int) (w : World) :
    Calls Tryz.prog 129 #[.iface 200 (.agg #[.int .i64 c, .int .i64 s]), .int .i64 b] w fun e w' => e = .returned (.agg #[.int .i64 5, .int .i64 b, .string ⟨#[]⟩, .string ⟨#[]⟩, .int .i64 c, .int .i64 s]) ∧ Below w.heap.size w w' := by
  go_enter Tryz.func129, Tryz.ntmps129
  go_wp2
  go_region
  go_wp2
  refine bodyPost_ret (v := .agg #[.int .i64 5, .int .i64 b, .string ⟨#[]⟩, .string ⟨#[]⟩, .int .i64 c, .int .i64 s]) (by simp [results, Tryz.results129, go_sem]) rfl ⟨rfl, ?_⟩
  first | exact al4 _ _ _ _ _ | exact (al4 _ _ _ _ _).drew | exact Below.setCell (al4 _ _ _ _ _).drew (Nat.le_refl _) _

set_option maxRecDepth 100000 in
set_option maxHeartbeats 1000000 in
theorem batchOk_5 (b : Int) (c s : Int) (w : World) :
    Calls Tryz.prog 137 #[.iface 200 (.agg #[.int .i64 c, .int .i64 s]), .int .i64 b] w fun e w' => e = .returned (.bool (decide (0 ≤ b ∧ b ≤ 1000000))) ∧ Below w.heap.size w w' := by
  by_cases h1 : 0 ≤ b
  · have t1 : decide (0 ≤ b) = true := by simpa using h1
    by_cases h2 : b ≤ 1000000
    · have t2 : decide (b ≤ 1000000) = true := by simpa using h2
      have HV : Hid (decide (0 ≤ b ∧ b ≤ 1000000) = true) := hide (decide_eq_true ⟨h1, h2⟩)
      clear h1 h2
      go_enter Tryz.func137, Tryz.ntmps137
      go_wp2
      go_ret
      exact ⟨by rw [HV.out]; rfl, al1 _ _⟩
    · have t2 : decide (b ≤ 1000000) = false := by simpa using h2
      have HV : Hid (decide (0 ≤ b ∧ b ≤ 1000000) = false) := hide (decide_eq_false (fun h => h2 h.2))
      clear h1 h2
      go_enter Tryz.func137, Tryz.ntmps137
      go_wp2
      go_ret
      exact ⟨by rw [HV.out]; rfl, al1 _ _⟩
  · have t1 : decide (0 ≤ b) = false := by simpa using h1
    have HV : Hid (decide (0 ≤ b ∧ b ≤ 1000000) = false) := hide (decide_eq_false (fun h => h1 h.1))
    clear h1
    go_enter Tryz.func137, Tryz.ntmps137
    go_wp2
    go_ret
    exact ⟨by rw [HV.out]; rfl, al1 _ _⟩

set_option maxRecDepth 100000 in
set_option maxHeartbeats 1000000 in
theorem bodyOk_5 (c s : Int) (w : World) :
    Calls Tryz.prog 138 #[.iface 200 (.agg #[.int .i64 c, .int .i64 s])] w fun e w' => e = .returned (.bool (totB c 20 s)) ∧ Below w.heap.size w w' := by
  go_enter Tryz.func138, Tryz.ntmps138
  go_wp2_with (go_at_call 145; refine (totalOk_any _ _ _ _).mono ?_; rintro e w' ⟨rfl, rfl⟩)
  go_ret
  exact ⟨rfl, al1 _ _⟩

end Go.Proofs.YtimpokbcfjgdaaaGreatDoor
