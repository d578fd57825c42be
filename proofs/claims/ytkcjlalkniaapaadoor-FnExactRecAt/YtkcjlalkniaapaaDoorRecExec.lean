/-
  '==' of two records as one operation of a statement whose order is open.
-/
import Derived.Test.YtkcjlalkniaapaaDoorRecEq
import Derived.Deep.RegionHeld3
namespace Go.Proofs.YtkcjlalkniaapaaDoor
open Go.RowKit
open Plain

theorem exec_eql {a : Act} {o : Oper} {x y : Operand} (ho : o.op = .binOp .eql 33 x y 33) {k b : Int} {key val : ByteArray} {c s k' b' : Int} {key' val' : ByteArray} {c' s' : Int} {z : Bool}
    (hx : a.eval x = .agg #[.int .i64 k, .int .i64 b, .string key, .string val, .int .i64 c, .int .i64 s]) (hy : a.eval y = .agg #[.int .i64 k', .int .i64 b', .string key', .string val', .int .i64 c', .int .i64 s']) (he : eqN k b key val c s k' b' key' val' c' s' = z) (W : World) :
    (execOp a.eval o).run Tryd.prog W = .ok (.value (.bool z)) W := by
  unfold execOp
  rw [ho]
  simp only [hx, hy]
  have hg : (eqGuard .eql 33 x y (.agg #[.int .i64 k, .int .i64 b, .string key, .string val, .int .i64 c, .int .i64 s]) (.agg #[.int .i64 k', .int .i64 b', .string key', .string val', .int .i64 c', .int .i64 s'])).run Tryd.prog W = .ok () W := by
    have hq := rec_guard
    go_simp
  simp only [Sem.run_bind, hg, Result.andThen_ok, rec_eql, he, Sem.run_pure]

end Go.Proofs.YtkcjlalkniaapaaDoor
