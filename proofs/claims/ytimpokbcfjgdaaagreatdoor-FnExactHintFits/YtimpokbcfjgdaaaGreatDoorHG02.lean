/-
  '==' and '!=' of two records, and the laws' eqRec: all six fields are the same. '==' of two records as one operation of a statement whose order is open.
-/
import Derived.Test.YtimpokbcfjgdaaaGreatDoorHG00
import Derived.Deep.RegionHeld3
namespace Go.Proofs.YtimpokbcfjgdaaaGreatDoor
open Go.RowKit
open Plain

def eqN (k b : Int) (key val : ByteArray) (c s k' b' : Int) (key' val' : ByteArray) (c' s' : Int) : Bool :=
  decide (k = k' ∧ b = b' ∧ key = key' ∧ val = val' ∧ c = c' ∧ s = s')
theorem eqN_yes {k b : Int} {key val : ByteArray} {c s k' b' : Int} {key' val' : ByteArray} {c' s' : Int} (h : k = k' ∧ b = b' ∧ key = key' ∧ val = val' ∧ c = c' ∧ s = s') : eqN k b key val c s k' b' key' val' c' s' = true := decide_eq_true h
theorem eqN_no {k b : Int} {key val : ByteArray} {c s k' b' : Int} {key' val' : ByteArray} {c' s' : Int} (h : ¬ (k = k' ∧ b = b' ∧ key = key' ∧ val = val' ∧ c = c' ∧ s = s')) : eqN k b key val c s k' b' key' val' c' s' = false := decide_eq_false h

theorem rec_equalIn (k b : Int) (key val : ByteArray) (c s k' b' : Int) (key' val' : ByteArray) (c' s' : Int) (w : World) : (Op.equalIn (9999 + 1) 41 (.agg #[.int .i64 k, .int .i64 b, .string key, .string val, .int .i64 c, .int .i64 s]) (.agg #[.int .i64 k', .int .i64 b', .string key', .string val', .int .i64 c', .int .i64 s'])).run Tryz.prog w = .ok (eqN k b key val c s k' b' key' val' c' s') w := by
  have hS : Tryz.prog.underlying 41 = some (.struct (Tryz.prog.fieldsOf 41)) := by kernel_rfl
  have hp : Tryz.prog.stoodInHeld 41 = false := by kernel_rfl
  have u3 := Tryz.underlying3
  have a3 := Tryz.isAgg3
  have z3 := Tryz.sizeOf3
  have u9 := Tryz.underlying9
  have a9 := Tryz.isAgg9
  have z9 := Tryz.sizeOf9
  rw [run_equalIn_agg w 9999 41 _ _ hS hp]
  simp only [Program.fieldsOf, Tryz.underlying41]
  by_cases h1 : k = k'
  · have t1 : (k == k') = true := by simpa using h1
    by_cases h2 : b = b'
    · have t2 : (b == b') = true := by simpa using h2
      by_cases h3 : key = key'
      · have t3 := str_eq _ _ h3
        by_cases h4 : val = val'
        · have t4 := str_eq _ _ h4
          by_cases h5 : c = c'
          · have t5 : (c == c') = true := by simpa using h5
            by_cases h6 : s = s'
            · have t6 : (s == s') = true := by simpa using h6
              rw [eqN_yes ⟨h1, h2, h3, h4, h5, h6⟩]
              clear h1 h2 h3 h4 h5 h6
              go_simp
            · have t6 : (s == s') = false := by simpa using h6
              rw [eqN_no (fun h => h6 h.2.2.2.2.2)]
              clear h1 h2 h3 h4 h5 h6
              go_simp
          · have t5 : (c == c') = false := by simpa using h5
            rw [eqN_no (fun h => h5 h.2.2.2.2.1)]
            clear h1 h2 h3 h4 h5
            go_simp
        · have t4 := str_ne _ _ h4
          rw [eqN_no (fun h => h4 h.2.2.2.1)]
          clear h1 h2 h3 h4
          go_simp
      · have t3 := str_ne _ _ h3
        rw [eqN_no (fun h => h3 h.2.2.1)]
        clear h1 h2 h3
        go_simp
    · have t2 : (b == b') = false := by simpa using h2
      rw [eqN_no (fun h => h2 h.2.1)]
      clear h1 h2
      go_simp
  · have t1 : (k == k') = false := by simpa using h1
    rw [eqN_no (fun h => h1 h.1)]
    clear h1
    go_simp

theorem rec_eql (k b : Int) (key val : ByteArray) (c s k' b' : Int) (key' val' : ByteArray) (c' s' : Int) (w : World) : (binOp .eql 41 (.agg #[.int .i64 k, .int .i64 b, .string key, .string val, .int .i64 c, .int .i64 s]) (.agg #[.int .i64 k', .int .i64 b', .string key', .string val', .int .i64 c', .int .i64 s'])).run Tryz.prog w = .ok (.bool (eqN k b key val c s k' b' key' val' c' s')) w := by
  rw [run_eql_struct, show (10000 : Nat) = 9999 + 1 from rfl, rec_equalIn]
  go_simp
theorem rec_guard : Tryz.prog.eqGuardType Tryz.prog.depth 41 = false := by kernel_rfl
theorem body_neq (t : TypeId) (v : Value) (w : World) : (binOp .neq 185 (.iface t v) .nilIface).run Tryz.prog w = .ok (.bool true) w := by kernel_rfl
theorem body_neq0 (w : World) : (binOp .neq 185 .nilIface .nilIface).run Tryz.prog w = .ok (.bool false) w := by kernel_rfl
theorem body_eql (t : TypeId) (v : Value) (w : World) : (binOp .eql 185 (.iface t v) .nilIface).run Tryz.prog w = .ok (.bool false) w := by kernel_rfl
theorem body_eql0 (w : World) : (binOp .eql 185 .nilIface .nilIface).run Tryz.prog w = .ok (.bool true) w := by kernel_rfl

end Go.Proofs.YtimpokbcfjgdaaaGreatDoor
namespace Go.Proofs.YtimpokbcfjgdaaaGreatDoor
open Go.RowKit
open Plain

theorem exec_eql {a : Act} {o : Oper} {x y : Operand} (ho : o.op = .binOp .eql 41 x y 41) {k b : Int} {key val : ByteArray} {c s k' b' : Int} {key' val' : ByteArray} {c' s' : Int} {z : Bool}
    (hx : a.eval x = .agg #[.int .i64 k, .int .i64 b, .string key, .string val, .int .i64 c, .int .i64 s]) (hy : a.eval y = .agg #[.int .i64 k', .int .i64 b', .string key', .string val', .int .i64 c', .int .i64 s']) (he : eqN k b key val c s k' b' key' val' c' s' = z) (W : World) :
    (execOp a.eval o).run Tryz.prog W = .ok (.value (.bool z)) W := by
  unfold execOp
  rw [ho]
  simp only [hx, hy]
  have hg : (eqGuard .eql 41 x y (.agg #[.int .i64 k, .int .i64 b, .string key, .string val, .int .i64 c, .int .i64 s]) (.agg #[.int .i64 k', .int .i64 b', .string key', .string val', .int .i64 c', .int .i64 s'])).run Tryz.prog W = .ok () W := by
    have hq := rec_guard
    go_simp
  simp only [Sem.run_bind, hg, Result.andThen_ok, rec_eql, he, Sem.run_pure]

end Go.Proofs.YtimpokbcfjgdaaaGreatDoor
